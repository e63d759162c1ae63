/- Classing's lines: the reference's costs of all lines. -/
import Derived.Test.YtmdhmpfagekonaaCJ4
namespace Go.Proofs.Ytmdhmpfagekonaa
open Go.RowKit Go.Proofs.Ytmdhmpfagekonaa.Ct Go.Proofs.Ytmdhmpfagekonaa.Ce Go.Proofs.Ytmdhmpfagekonaa.Stb
set_option linter.unusedVariables false
set_option linter.unusedSimpArgs false

theorem made1J (n : Nat) : (madeCells (Value.int .i64 0).cells ((n + 1) * 1)).toList = (List.range ((n + 1) * 1)).map fun k => Value.int .i64 ((fun _ => 0) k) := by
  rw [madeInts]
theorem made1J' (n : Nat) : (madeCells (Value.int .i64 0).cells (n + 1)).toList = (List.range ((n + 1) * 1)).map fun k => Value.int .i64 ((fun _ => 0) k) := by
  rw [madeInts, Nat.mul_one]
theorem OB.setJ {W : World} {g n : Nat} {t : TypeId} {f : Nat → Int} (h : OB W g t n (fun k => .int .i64 (f k))) (i : Nat) (v : Int) : OB (W.setCell ⟨g, i, none⟩ (.int .i64 v)) g t n (fun k => .int .i64 (upF f i v k)) :=
  (h.set i (.int .i64 v)).ext fun k _ => by
    unfold updV upF
    by_cases e : k = i
    · rw [if_pos e, if_pos e]
    · rw [if_neg e, if_neg e]
theorem below_setJ {b : Nat} {w W : World} (h : Below b w W) {g : Nat} (hg : b ≤ g) (k : Nat) (v : Value) : Below b w (W.setCell ⟨g, k, none⟩ v) := h.setCell hg _
theorem ob_grown {W w' : World} {o : Obj} {g n b s k : Nat} {t e : TypeId} {c : Nat → Value} {v : Value} {xs : List Value} (h : OB W g t n c) (row : W.ownsRow b e s v k xs) (ne : t ≠ e) (gr : (W.alloc o).grownBy w' v.ownBlock) : OB w' g t n c := by
  refine (h.below ((Below.refl _ W).alloc (Nat.le_refl _) o)).keep (gr.block g (by have := h.lt; simp; omega) fun e1 => ?_)
  rcases row.2 with ⟨rfl, _⟩ | ⟨q, cap, cur, rfl, _, hq, _⟩
  · cases e1
  · have e2 : g = q := Option.some.inj e1
    subst e2
    unfold OB at h
    rw [h] at hq
    cases hq
    exact ne rfl
theorem slice_one {w : World} (x : Value) (hx : x.cells = #[x]) (t : TypeId) : ∀ j u, ([x])[j]? = some u → (w.alloc (Obj.cells #[x] t)).cell? ((⟨w.heap.size, 0, none⟩ : Addr).add j) = some u := by
  intro j u h
  rcases j with _ | j
  · simp at h; subst h; rw [add0]; simp [go_sem]
  · simp at h
theorem one_sl {q : Option Addr} {n c : Nat} : ∀ u ∈ [Value.slice q n c], u.oneCell' = true := by intro u hu; simp at hu; subst hu; rfl
theorem int_ne_row : (3 : TypeId) ≠ 36 := by decide
/-- The rows that are there. -/
def RowsI (W : World) (n i : Nat) (gr : Nat → Nat) (C : Nat → Nat → Int) : Prop := ∀ r, r < i → OB W (gr r) 3 (n + 1) (fun j => .int .i64 (C r j))
theorem RowsI.below {W W' : World} {n i : Nat} {gr : Nat → Nat} {C : Nat → Nat → Int} (h : RowsI W n i gr C) (b : Below W.heap.size W W') : RowsI W' n i gr C := fun r hr => (h r hr).below b
theorem RowsI.coR {W : World} {n b : Nat} {v : Value} {gr : Nat → Nat} {C : Nat → Nat → Int} (h : RowsI W n n gr C) (row : W.ownsRow b 36 1 v n ((List.range n).map fun r => Value.slice (some ⟨gr r, 0, none⟩) (n + 1) (n + 1))) : ∃ p c, v = .slice p n c ∧ CoR W p n (n + 1) C := by
  rcases row.2 with ⟨rfl, h0⟩ | ⟨g, cap, cur, rfl, hb, hg, hn, _, hs, ht⟩
  · exact ⟨none, 0, by rw [h0], fun i hi => by omega⟩
  · refine ⟨_, _, rfl, fun i hi => ⟨⟨g, 0, none⟩, some ⟨gr i, 0, none⟩, n + 1, rfl, (Array.getElem?_eq_some_iff.1 hg).1, ?_, (h i hi).nm⟩⟩
    rw [add0]
    have e : ((List.range n).map fun r => Value.slice (some ⟨gr r, 0, none⟩) (n + 1) (n + 1))[i]? = some (.slice (some ⟨gr i, 0, none⟩) (n + 1) (n + 1)) := by simp [hi]
    rw [show W.cell? ⟨g, i, none⟩ = cur[i]? from by simp [World.cell?, hg]]
    rw [← e, ← ht, List.getElem?_take_of_lt (by omega)]; simp
theorem rowsV_snoc {n i g : Nat} {gr : Nat → Nat} : ((List.range i).map fun r => Value.slice (some ⟨gr r, 0, none⟩) (n + 1) (n + 1)) ++ [.slice (some ⟨g, 0, none⟩) (n + 1) (n + 1)] = (List.range (i + 1)).map fun r => Value.slice (some ⟨upN gr i g r, 0, none⟩) (n + 1) (n + 1) := by
  rw [List.range_succ, List.map_append]
  congr 1
  · refine List.map_congr_left fun r hr => ?_
    have := List.mem_range.1 hr
    unfold upN
    rw [if_neg (by omega)]
  · simp [upN]

set_option maxRecDepth 100000 in
set_option maxHeartbeats 16000000 in
theorem rcosts_any (p : Option Addr) (c n : Nat) (F : Nat → Fl) (ls le sp : Int) (w : World) (r : FlR w p n F) (ln : n ≤ 140) (ok : ∀ k, k < n → (F k).ok) (kok : ∀ k, k < n → (F k).kok) (spb : 0 ≤ sp ∧ sp ≤ 10000) :
    Calls Try.prog 28 #[.slice p n c, .agg #[.int .i64 ls, .int .i64 le, .int .i64 sp]] w fun e w' => ∃ q d, e = .returned (.slice q n d) ∧ CoR w' q n (n + 1) (fun i j => lnc (inO F n) le sp i j) ∧ Below w.heap.size w w' := by
  obtain ⟨i0, hi, hz0, hz1, hz2⟩ := info_parts intInfo
  obtain ⟨i2, hi2, hx0, hx1, hx2⟩ := info_parts rowInfo
  have R := Lib.hid r
  have OK := Lib.hid ok
  have KOK := Lib.hid kok
  have B1 := Lib.hid (show Below w.heap.size w (w.alloc (Obj.cells #[.int .i64 ls, .int .i64 le, .int .i64 sp] 24)) from (Below.refl _ _).alloc (Nat.le_refl _) _)
  have OS := Lib.hid (show OB (w.alloc (Obj.cells #[.int .i64 ls, .int .i64 le, .int .i64 sp] 24)) w.heap.size 24 3 (spC ls le sp) from by unfold OB; rw [heap_alloc_new]; rfl)
  clear r ok kok
  go_enter Try.func28, Try.ntmps28
  go_upto_region 1 with fail
  generalize w.alloc (Obj.cells #[.int .i64 ls, .int .i64 le, .int .i64 sp] 24) = wa at *
  have C1 := Lib.hid (rOrder_any p c n F wa (R.out.below B1.out) ln OK.out KOK.out)
  go_wp2_with fail
  refine C1.out.mono ?_
  rintro e wo ⟨q, d, rfl, RO, b1, -⟩
  have HB := Lib.hid (B1.out.trans (b1.mono B1.out.size))
  have OS1 := Lib.hid (OS.out.below b1)
  replace RO := Lib.hid RO
  clear b1 C1 OS B1
  have LC := Lib.hid (fun W (b : Below wo.heap.size wo W) (i j : Nat) (hj : j ≤ n) => rline_any p c n F q d i j ls le sp W ((R.out.below HB.out).below b) (RO.out.below b) ln hj OK.out KOK.out)
  have OKA := Lib.hid (inO_ok OK.out)
  have KOA := Lib.hid (inO_kok KOK.out)
  have UP := Lib.hid (fun x y (h : x ≤ y) (g : y < n) => inO_le F n h g)
  have OB2 := Lib.hid ((ordK_ord (q := fun k => (F k).key) n).2.1)
  have AE := Lib.hid (inO_def F n)
  have G := Lib.hid (fun W (b : Below wo.heap.size wo W) m (hm : m < n) => show ∃ v x y, v < n ∧ gi (ordK (fun k => (F k).key) n) m = (v : Int) ∧ OrdF W p q m v x y (inO F n m) from by rw [AE.out m]; exact OrdF.of ((R.out.below HB.out).below b) (RO.out.below b) hm (OB2.out m hm))
  clear R RO OK KOK AE OB2
  generalize ordK (fun k => (F k).key) n = O at *
  generalize hA : inO F n = A at *
  have HA := Lib.hid hA
  clear hA
  have e0 : IntKind.i64.wrap ((n : Int) + 1) = (n : Int) + 1 := hwI (by omega) (by omega)
  have n0 : ¬ ((n : Int) + 1 < 0) := by omega
  go_wp2_with fail
  go_loopw [6, 7] (fun ov iv wr => ∃ (i : Nat) (gr : Nat → Nat), i ≤ n ∧ iv = .int .i64 i ∧ Hid (RowsI wr n i gr (fun i j => lnc A le sp i j)) ∧ Hid (wr.ownsRow wo.heap.size 36 1 ov i ((List.range i).map fun r => Value.slice (some ⟨gr r, 0, none⟩) (n + 1) (n + 1))) ∧ Hid (Below wo.heap.size wo wr)) (fun _ iv _ => n - (intOf iv).toNat)
  case atStart => exact ⟨0, fun _ => 0, Nat.zero_le _, rfl, Lib.hid (fun r h => absurd h (by omega)), Lib.hid (World.ownsRow_nil _ _ _ _), Lib.hid (Below.refl _ _)⟩
  case round =>
    obtain ⟨i, gr, hi1, rfl, HR, HO, HW⟩ := hrel
    by_cases t1 : i < n
    case pos =>
      have i1 : (0 : Int) ≤ (i : Int) := by omega
      have i3 : (i : Int) < (n : Int) := by omega
      go_upto_region 7 with (first
        | (at_make; refine wpList_make_full _ rfl _ _ 36 rfl wr.heap.size 3 i0 (.int .i64 0) 1 Try.underlying36 hi hz0 hz1 .i64 .i64 _ _ (n + 1) rfl rfl (by omega) (by omega) (by rw [hz2]; omega) (by unfold maxLen; omega) (Nat.le_refl _) ?_; intro wc hown hgrow))
      first | rw [made1J] at hown | rw [made1J'] at hown
      have OL := Lib.hid (show OB wc wr.heap.size 3 (n + 1) (fun k => .int .i64 ((fun _ => 0) k)) from by
        have := OB.of hown
        rw [Nat.mul_one] at this
        exact this)
      have B3 := Lib.hid (show Below wr.heap.size wr wc from (Below.refl _ _).grown hgrow (Nat.le_refl _) (fun k e => by cases e))
      clear hown hgrow
      obtain ⟨gl, hgl⟩ : ∃ gl, gl = wr.heap.size := ⟨_, rfl⟩
      rw [← hgl] at OL ⊢
      have HGL := Lib.hid hgl
      clear hgl
      go_wp2_with fail
      go_loopw [9] (fun jv wq => ∃ (j : Nat) (f : Nat → Int), j ≤ n + 2 ∧ jv = .int .i64 (j : Int) ∧ Hid (OB wq gl 3 (n + 1) (fun k => .int .i64 (f k))) ∧ Hid (∀ m, m < j → m < n + 1 → f m = lnc A le sp i m) ∧ Hid (Below wr.heap.size wr wq)) (fun jv _ => n + 2 - (intOf jv).toNat)
      case atStart => exact ⟨0, _, Nat.zero_le _, rfl, OL, Lib.hid (fun m h => absurd h (by omega)), B3⟩
      case round =>
        clear OL B3
        obtain ⟨j, f, hj2, rfl, HG, HV, HW6⟩ := hrel
        rename World => wq
        by_cases t3 : j ≤ n
        case pos =>
          have j1 : (0 : Int) ≤ (j : Int) := by omega
          have j2 : (j : Int) < ((n + 1 : Nat) : Int) := by omega
          have j3 : (j : Int) < (n : Int) + 1 := by omega
          have j4 : (j : Int) ≤ (n : Int) := by omega
          have ej : IntKind.i64.wrap ((j : Int) + 1) = (j : Int) + 1 := hwI (by omega) (by omega)
          have cj := HG.out.cell (k := j) (by omega)
          have fj := HG.out.frozen j
          have HG2 := Lib.hid (HG.out.setJ j (-1))
          have HW7 := Lib.hid (below_setJ HW6.out (g := gl) (by rw [HGL.out]; exact Nat.le_refl _) j (.int .i64 (-1)))
          have HV0 := Lib.hid (show lnc A le sp i j = -1 → ∀ m, m < j + 1 → m < n + 1 → upF f j (-1) m = lnc A le sp i m from fun h m h1 h2 => by
            unfold upF
            by_cases e : m = j
            · rw [if_pos e, e, h]
            · rw [if_neg e]; exact HV.out m (by omega) h2)
          have HV1 := Lib.hid (show ∀ z, lnc A le sp i j = z → ∀ m, m < j + 1 → m < n + 1 → upF (upF f j (-1)) j z m = lnc A le sp i m from fun z h m h1 h2 => by
            unfold upF
            by_cases e : m = j
            · rw [if_pos e, e, h]
            · rw [if_neg e, if_neg e]; exact HV.out m (by omega) h2)
          clear HG HW6 HV
          generalize f j = fjv at cj
          generalize hwq1 : wq.setCell ⟨gl, j, none⟩ (.int .i64 (-1)) = wq1 at *
          by_cases t4 : j ≤ i
          case pos =>
            have d4 : decide ((j : Int) ≤ (i : Int)) = true := decide_eq_true (by omega)
            have HV2 := Lib.hid (HV0.out (if_neg fun h => by have := h.1; omega))
            clear HV0 HV1
            go_wp2_with fail
            go_roundw
            case rel => exact ⟨j + 1, _, by omega, by go_num, HG2, HV2, HW7⟩
            case measure => simp [intOf]; omega
          have d4 : decide ((j : Int) ≤ (i : Int)) = false := decide_eq_false (by omega)
          have CL := Lib.hid (LC.out wq1 (HW.out.trans (HW7.out.mono HW.out.size)) i j t3)
          obtain ⟨jj, hjj⟩ : ∃ jj, j = jj + 1 := ⟨j - 1, by omega⟩
          have eJ : IntKind.i64.wrap ((j : Int) - 1) = (jj : Int) := by rw [hwI (by omega) (by omega)]; omega
          have jj1 : (0 : Int) ≤ (jj : Int) := by omega
          have jj2 : (jj : Int) < (n : Int) := by omega
          have STP := Lib.hid (show ((A jj).kk ≠ (A i).kk ∨ sp < (A jj).mic - (A i).mic) → ∀ t, j ≤ t → t ≤ n → lnc A le sp i t = -1 from fun h => lnc_stop OKA.out UP.out (by omega) t3 (by rw [hjj, Nat.add_sub_cancel]; exact h))
          have ISL := Lib.hid (show isLine A le sp i j → (A jj).kk = (A i).kk ∧ ¬ sp < (A jj).mic - (A i).mic from fun h => by
            have h2 := h.2.1
            have h3 := h.2.2.1
            rw [hjj, Nat.add_sub_cancel] at h2 h3
            exact ⟨h2.symm, by omega⟩)
          have HJJ := Lib.hid hjj
          clear hjj
          have OSq := OS1.out.below (HW.out.trans (HW7.out.mono HW.out.size))
          have q0 : wq1.cell? ⟨w.heap.size, 0, none⟩ = some (.int .i64 ls) := OSq.cell (k := 0) (by decide)
          have q1 : wq1.cell? ⟨w.heap.size, 1, none⟩ = some (.int .i64 le) := OSq.cell (k := 1) (by decide)
          have q2 : wq1.cell? ⟨w.heap.size, 2, none⟩ = some (.int .i64 sp) := OSq.cell (k := 2) (by decide)
          clear OSq
          go_wp2_with fail
          refine CL.out.mono ?_
          rintro e w5 h
          clear cj fj hwq1 CL q0 q1 q2
          rcases h with ⟨il, ⟨pp, dd, rfl, -, -⟩, b5⟩ | ⟨il, rfl, b5⟩
          · have HV2 := Lib.hid (HV1.out (offs A (cen A i j) i j) (if_pos il))
            obtain ⟨ik, is⟩ := ISL.out il
            clear HV0 HV1 ISL il
            replace HG2 := Lib.hid ((HG2.out.below b5).below ((Below.refl _ w5).alloc (Nat.le_refl _) (Obj.cells #[.int .u8 (A i).ka, .int .u8 (A i).kb, .int .u8 (A i).kc, .int .u8 (A i).kd, .slice pp (j - i) dd, .int .i64 (mas A i j), .int .i64 (cen A i j), .int .i64 (offs A (cen A i j) i j)] 38)))
            replace HW7 := Lib.hid ((HW7.out.trans (b5.mono HW7.out.size)).alloc (Nat.le_trans HW7.out.size b5.size) (Obj.cells #[.int .u8 (A i).ka, .int .u8 (A i).kb, .int .u8 (A i).kc, .int .u8 (A i).kd, .slice pp (j - i) dd, .int .i64 (mas A i j), .int .i64 (cen A i j), .int .i64 (offs A (cen A i j) i j)] 38))
            have c7 : (w5.alloc (Obj.cells #[.int .u8 (A i).ka, .int .u8 (A i).kb, .int .u8 (A i).kc, .int .u8 (A i).kd, .slice pp (j - i) dd, .int .i64 (mas A i j), .int .i64 (cen A i j), .int .i64 (offs A (cen A i j) i j)] 38)).cell? ⟨w5.heap.size, 7, none⟩ = some (.int .i64 (offs A (cen A i j) i j)) := by simp [go_sem]
            unfold lnV
            go_upto_region 13 with fail
            generalize w5.alloc (Obj.cells #[.int .u8 (A i).ka, .int .u8 (A i).kb, .int .u8 (A i).kc, .int .u8 (A i).kd, .slice pp (j - i) dd, .int .i64 (mas A i j), .int .i64 (cen A i j), .int .i64 (offs A (cen A i j) i j)] 38) = wz at *
            generalize w5.heap.size = gz at *
            generalize offs A (cen A i j) i j = ov at *
            have cj := HG2.out.cell (k := j) (by omega)
            have fj := HG2.out.frozen j
            have HG := Lib.hid (HG2.out.setJ j ov)
            have HW6 := Lib.hid (below_setJ HW7.out (g := gl) (by rw [HGL.out]; exact Nat.le_refl _) j (.int .i64 ov))
            have HV := HV2
            generalize upF f j (-1) j = z1 at cj
            generalize upF (upF f j (-1)) j ov = g at *
            clear HG2 HW7 HV2
            go_upto_region 15 with fail
            generalize wz.setCell ⟨gl, j, none⟩ (.int .i64 ov) = w6 at *
            clear cj fj c7
            obtain ⟨v, x', y', vn, hv, ex, ey, cy, fl⟩ := G.out w6 (HW.out.trans (HW6.out.mono HW.out.size)) jj (by have := HJJ.out; omega)
            have HX := Lib.hid (show p = some x' ∧ q = some y' from ⟨ex, ey⟩)
            subst ex
            subst ey
            obtain ⟨-, a0, a1, a2, a3, a4, a5⟩ := fl
            obtain ⟨u, x2, y2, un, hu, ex, ey, cy2, fl⟩ := G.out w6 (HW.out.trans (HW6.out.mono HW.out.size)) i (by omega)
            cases ex
            cases ey
            obtain ⟨-, b0, b1, b2, b3, b4, b5⟩ := fl
            have v1 : (0 : Int) ≤ (v : Int) := by omega
            have v2 : (v : Int) < (n : Int) := by omega
            have u1 : (0 : Int) ≤ (u : Int) := by omega
            have u2 : (u : Int) < (n : Int) := by omega
            have s2 : w6.cell? ⟨w.heap.size, 2, none⟩ = some (.int .i64 sp) := (OS1.out.below ((HW.out.trans (HW6.out.mono HW.out.size)))).cell (k := 2) (by decide)
            obtain ⟨t, ht⟩ : ∃ t, t = A jj := ⟨_, rfl⟩
            obtain ⟨s, hs⟩ : ∃ s, s = A i := ⟨_, rfl⟩
            rw [← ht] at a0 a1 a2 a3 a4 a5
            rw [← hs] at b0 b1 b2 b3 b4 b5
            have KE := Lib.hid (kk_eq (show t.kok from by rw [ht]; exact KOA.out jj (by have := HJJ.out; omega)) (show s.kok from by rw [hs]; exact KOA.out i (by omega)))
            have o1 := OKA.out jj (by have := HJJ.out; omega)
            have o2 := OKA.out i (by omega)
            rw [← ht] at o1
            rw [← hs] at o2
            unfold Fl.ok at o1 o2
            have eS : IntKind.i64.wrap (t.mic - s.mic) = t.mic - s.mic := hwI (by omega) (by omega)
            have HTS := Lib.hid (show t = A jj ∧ s = A i from ⟨ht, hs⟩)
            clear ht hs o1 o2 hv hu
            have EK := fun W => eq_kind t.ka t.kb t.kc t.kd s.ka s.kb s.kc s.kd W
            have hk2 := KE.out.1 (by rw [HTS.out.1, HTS.out.2]; exact ik)
            simp only [decide_eq_true hk2] at EK
            have ds : decide (sp < t.mic - s.mic) = false := decide_eq_false (by rw [HTS.out.1, HTS.out.2]; exact Int.not_lt.2 is)
            clear ik is hk2 HTS
            go_wp2_with fail
            go_upto_region 15 with fail
            go_quiet (fail)
            have HG2 := Lib.hid (show OB (w6.drewN nq) gl 3 (n + 1) (fun k => .int .i64 (g k)) from HG.out)
            have HW7 := Lib.hid (below_drewN HW6.out nq)
            clear HG HW6 a0 a1 a2 a3 a4 a5 b0 b1 b2 b3 b4 b5 cy cy2 s2 EK KE eS
            generalize w6.drewN nq = w7 at *
            go_wp2_with fail
            go_roundw
            case rel => exact ⟨j + 1, g, by omega, by go_num, HG2, Lib.hid (fun m h1 h2 => HV.out m h1 h2), HW7⟩
            case measure => simp [intOf]; omega
          · have HV := Lib.hid (HV0.out (if_neg il))
            clear HV0 HV1 ISL il
            have HG := Lib.hid ((HG2.out.below b5).below ((Below.refl _ w5).alloc (Nat.le_refl _) (Obj.cells #[.int .u8 0, .int .u8 0, .int .u8 0, .int .u8 0, .slice none 0 0, .int .i64 0, .int .i64 0, .int .i64 0] 38)))
            have HW6 := Lib.hid ((HW7.out.trans (b5.mono HW7.out.size)).alloc (Nat.le_trans HW7.out.size b5.size) (Obj.cells #[.int .u8 0, .int .u8 0, .int .u8 0, .int .u8 0, .slice none 0 0, .int .i64 0, .int .i64 0, .int .i64 0] 38))
            clear HG2 HW7
            unfold lnZ
            go_upto_region 15 with fail
            generalize w5.alloc (Obj.cells #[.int .u8 0, .int .u8 0, .int .u8 0, .int .u8 0, .slice none 0 0, .int .i64 0, .int .i64 0, .int .i64 0] 38) = w6 at *
            generalize w5.heap.size = gz at *
            generalize upF f j (-1) = g at *
            obtain ⟨v, x', y', vn, hv, ex, ey, cy, fl⟩ := G.out w6 (HW.out.trans (HW6.out.mono HW.out.size)) jj (by have := HJJ.out; omega)
            have HX := Lib.hid (show p = some x' ∧ q = some y' from ⟨ex, ey⟩)
            subst ex
            subst ey
            obtain ⟨-, a0, a1, a2, a3, a4, a5⟩ := fl
            obtain ⟨u, x2, y2, un, hu, ex, ey, cy2, fl⟩ := G.out w6 (HW.out.trans (HW6.out.mono HW.out.size)) i (by omega)
            cases ex
            cases ey
            obtain ⟨-, b0, b1, b2, b3, b4, b5⟩ := fl
            have v1 : (0 : Int) ≤ (v : Int) := by omega
            have v2 : (v : Int) < (n : Int) := by omega
            have u1 : (0 : Int) ≤ (u : Int) := by omega
            have u2 : (u : Int) < (n : Int) := by omega
            have s2 : w6.cell? ⟨w.heap.size, 2, none⟩ = some (.int .i64 sp) := (OS1.out.below ((HW.out.trans (HW6.out.mono HW.out.size)))).cell (k := 2) (by decide)
            obtain ⟨t, ht⟩ : ∃ t, t = A jj := ⟨_, rfl⟩
            obtain ⟨s, hs⟩ : ∃ s, s = A i := ⟨_, rfl⟩
            rw [← ht] at a0 a1 a2 a3 a4 a5
            rw [← hs] at b0 b1 b2 b3 b4 b5
            have KE := Lib.hid (kk_eq (show t.kok from by rw [ht]; exact KOA.out jj (by have := HJJ.out; omega)) (show s.kok from by rw [hs]; exact KOA.out i (by omega)))
            have o1 := OKA.out jj (by have := HJJ.out; omega)
            have o2 := OKA.out i (by omega)
            rw [← ht] at o1
            rw [← hs] at o2
            unfold Fl.ok at o1 o2
            have eS : IntKind.i64.wrap (t.mic - s.mic) = t.mic - s.mic := hwI (by omega) (by omega)
            have HTS := Lib.hid (show t = A jj ∧ s = A i from ⟨ht, hs⟩)
            clear ht hs o1 o2 hv hu
            have EK := fun W => eq_kind t.ka t.kb t.kc t.kd s.ka s.kb s.kc s.kd W
            by_cases hk : t.kk = s.kk
            case neg =>
              have hk2 : ¬ (t.ka = s.ka ∧ t.kb = s.kb ∧ t.kc = s.kc ∧ t.kd = s.kd) := fun h => hk (KE.out.2 h)
              simp only [decide_eq_false hk2] at EK
              have STOP := Lib.hid (STP.out (.inl (by rw [← HTS.out.1, ← HTS.out.2]; exact hk)))
              clear hk hk2 HTS STP
              go_wp2_with fail
              go_upto_region 15 with fail
              go_quiet (fail)
              have HG2 := Lib.hid (show OB (w6.drewN nq) gl 3 (n + 1) (fun k => .int .i64 (g k)) from HG.out)
              have HW7 := Lib.hid (below_drewN HW6.out nq)
              clear HG HW6 a0 a1 a2 a3 a4 a5 b0 b1 b2 b3 b4 b5 cy cy2 s2 EK KE eS
              generalize w6.drewN nq = w7 at *
              go_wp2_with fail
              go_loopw [9] (fun kv wz => ∃ (k : Nat) (f : Nat → Int), j + 1 ≤ k ∧ k ≤ n + 1 ∧ kv = .int .i64 (k : Int) ∧ Hid (OB wz gl 3 (n + 1) (fun k => .int .i64 (f k))) ∧ Hid (∀ m, m < k → m < n + 1 → f m = lnc A le sp i m) ∧ Hid (Below wr.heap.size wr wz)) (fun kv _ => n + 1 - (intOf kv).toNat)
              case atStart => exact ⟨j + 1, g, Nat.le_refl _, by omega, by simp, HG2, HV, HW7⟩
              case round =>
                clear HG2 HV HW7
                obtain ⟨k, f, hk1, hk2, rfl, HG, HV, HW7⟩ := hrel
                rename World => wz
                by_cases t4 : k ≤ n
                case pos =>
                  have k1 : (0 : Int) ≤ (k : Int) := by omega
                  have k2 : (k : Int) < ((n + 1 : Nat) : Int) := by omega
                  have k3 : (k : Int) < (n : Int) + 1 := by omega
                  have k4 : (k : Int) ≤ (n : Int) := by omega
                  have ck := HG.out.cell (k := k) (by omega)
                  have fk := HG.out.frozen k
                  have HG2 := Lib.hid (HG.out.setJ k (-1))
                  have HW8 := Lib.hid (below_setJ HW7.out (g := gl) (by rw [HGL.out]; exact Nat.le_refl _) k (.int .i64 (-1)))
                  have HV2 := Lib.hid (show ∀ m, m < k + 1 → m < n + 1 → upF f k (-1) m = lnc A le sp i m from fun m h1 h2 => by
                    unfold upF
                    by_cases e : m = k
                    · rw [if_pos e, e]; exact (STOP.out k (by omega) (by omega)).symm
                    · rw [if_neg e]; exact HV.out m (by omega) h2)
                  have ek : IntKind.i64.wrap ((k : Int) + 1) = (k : Int) + 1 := hwI (by omega) (by omega)
                  clear HG HV HW7
                  generalize f k = fkv at ck
                  go_wp2_with fail
                  go_roundw
                  case rel => exact ⟨k + 1, _, by omega, by omega, by go_num, HG2, HV2, HW8⟩
                  case measure => simp [intOf]; omega
                obtain rfl : k = n + 1 := by omega
                have d4 : decide (((n + 1 : Nat) : Int) ≤ (n : Int)) = false := decide_eq_false (by omega)
                have d5 : decide ((n : Int) + 1 ≤ (n : Int)) = false := decide_eq_false (by omega)
                have d6 : ¬ ((n : Int) + 1 ≤ (n : Int)) := by omega
                go_wp2_with fail
                go_roundw
                case rel => exact ⟨n + 2, f, by omega, by go_num, HG, Lib.hid (fun m h1 h2 => HV.out m (by omega) h2), HW7⟩
                case measure => simp [intOf]; omega
            have hk2 := KE.out.1 hk
            simp only [decide_eq_true hk2] at EK
            by_cases hs : sp < t.mic - s.mic
            case pos =>
              have ds : decide (sp < t.mic - s.mic) = true := decide_eq_true hs
              have STOP := Lib.hid (STP.out (.inr (by rw [← HTS.out.1, ← HTS.out.2]; exact hs)))
              clear hk hk2 hs HTS STP
              go_wp2_with fail
              go_upto_region 15 with fail
              go_quiet (fail)
              have HG2 := Lib.hid (show OB (w6.drewN nq) gl 3 (n + 1) (fun k => .int .i64 (g k)) from HG.out)
              have HW7 := Lib.hid (below_drewN HW6.out nq)
              clear HG HW6 a0 a1 a2 a3 a4 a5 b0 b1 b2 b3 b4 b5 cy cy2 s2 EK KE eS
              generalize w6.drewN nq = w7 at *
              go_wp2_with fail
              go_loopw [9] (fun kv wz => ∃ (k : Nat) (f : Nat → Int), j + 1 ≤ k ∧ k ≤ n + 1 ∧ kv = .int .i64 (k : Int) ∧ Hid (OB wz gl 3 (n + 1) (fun k => .int .i64 (f k))) ∧ Hid (∀ m, m < k → m < n + 1 → f m = lnc A le sp i m) ∧ Hid (Below wr.heap.size wr wz)) (fun kv _ => n + 1 - (intOf kv).toNat)
              case atStart => exact ⟨j + 1, g, Nat.le_refl _, by omega, by simp, HG2, HV, HW7⟩
              case round =>
                clear HG2 HV HW7
                obtain ⟨k, f, hk1, hk2, rfl, HG, HV, HW7⟩ := hrel
                rename World => wz
                by_cases t4 : k ≤ n
                case pos =>
                  have k1 : (0 : Int) ≤ (k : Int) := by omega
                  have k2 : (k : Int) < ((n + 1 : Nat) : Int) := by omega
                  have k3 : (k : Int) < (n : Int) + 1 := by omega
                  have k4 : (k : Int) ≤ (n : Int) := by omega
                  have ck := HG.out.cell (k := k) (by omega)
                  have fk := HG.out.frozen k
                  have HG2 := Lib.hid (HG.out.setJ k (-1))
                  have HW8 := Lib.hid (below_setJ HW7.out (g := gl) (by rw [HGL.out]; exact Nat.le_refl _) k (.int .i64 (-1)))
                  have HV2 := Lib.hid (show ∀ m, m < k + 1 → m < n + 1 → upF f k (-1) m = lnc A le sp i m from fun m h1 h2 => by
                    unfold upF
                    by_cases e : m = k
                    · rw [if_pos e, e]; exact (STOP.out k (by omega) (by omega)).symm
                    · rw [if_neg e]; exact HV.out m (by omega) h2)
                  have ek : IntKind.i64.wrap ((k : Int) + 1) = (k : Int) + 1 := hwI (by omega) (by omega)
                  clear HG HV HW7
                  generalize f k = fkv at ck
                  go_wp2_with fail
                  go_roundw
                  case rel => exact ⟨k + 1, _, by omega, by omega, by go_num, HG2, HV2, HW8⟩
                  case measure => simp [intOf]; omega
                obtain rfl : k = n + 1 := by omega
                have d4 : decide (((n + 1 : Nat) : Int) ≤ (n : Int)) = false := decide_eq_false (by omega)
                have d5 : decide ((n : Int) + 1 ≤ (n : Int)) = false := decide_eq_false (by omega)
                have d6 : ¬ ((n : Int) + 1 ≤ (n : Int)) := by omega
                go_wp2_with fail
                go_roundw
                case rel => exact ⟨n + 2, f, by omega, by go_num, HG, Lib.hid (fun m h1 h2 => HV.out m (by omega) h2), HW7⟩
                case measure => simp [intOf]; omega
            have ds : decide (sp < t.mic - s.mic) = false := decide_eq_false hs
            clear hk hk2 hs HTS STP
            go_wp2_with fail
            go_upto_region 15 with fail
            go_quiet (fail)
            have HG2 := Lib.hid (show OB (w6.drewN nq) gl 3 (n + 1) (fun k => .int .i64 (g k)) from HG.out)
            have HW7 := Lib.hid (below_drewN HW6.out nq)
            clear HG HW6 a0 a1 a2 a3 a4 a5 b0 b1 b2 b3 b4 b5 cy cy2 s2 EK KE eS
            generalize w6.drewN nq = w7 at *
            go_wp2_with fail
            go_roundw
            case rel => exact ⟨j + 1, g, by omega, by go_num, HG2, Lib.hid (fun m h1 h2 => HV.out m h1 h2), HW7⟩
            case measure => simp [intOf]; omega
        have jn : n < j := by omega
        have d4 : decide ((j : Int) ≤ (n : Int)) = false := decide_eq_false (by omega)
        have HR2 := Lib.hid (HR.out.below HW6.out)
        have HO2 := Lib.hid (own_belowD HO.out HW6.out)
        have HW2 := Lib.hid (HW.out.trans (HW6.out.mono HW.out.size))
        have RI := Lib.hid (show ∀ r, r < i + 1 → OB wq (upN gr i gl r) 3 (n + 1) (fun j => .int .i64 (lnc A le sp r j)) from fun r hr => by
          unfold upN
          by_cases e : r = i
          · rw [if_pos e, e]; exact HG.out.ext fun m hm => by rw [HV.out m (by omega) hm]
          · rw [if_neg e]; exact HR2.out r (by omega))
        clear HG HV HW6 HR HO HW HR2
        go_wp2_with (first
          | (at_builtin; refine wpList_append_own _ rfl _ _ 60 rfl wo.heap.size 36 i2 (.slice none 0 0) 1 24 Try.underlying60 hi2 hx0 hx1 hx2 rfl (by decide) _ _ _ rfl (HO2.out.alloc _) ⟨wq.heap.size, 0, none⟩ 1 1 [.slice (some ⟨gl, 0, none⟩) (n + 1) (n + 1)] rfl rfl (slice_one _ rfl _) one_sl (by unfold maxLen; omega) (by omega) (by have := HW2.out.size; simp; omega) ?_))
        intro v' w1 hown' hgrow _
        have HR3 := Lib.hid (show RowsI w1 n (i + 1) (upN gr i gl) (fun i j => lnc A le sp i j) from fun r hr => ob_grown (RI.out r hr) HO2.out int_ne_row hgrow)
        have HO3 := Lib.hid (show w1.ownsRow wo.heap.size 36 1 v' (i + 1) ((List.range (i + 1)).map fun r => Value.slice (some ⟨upN gr i gl r, 0, none⟩) (n + 1) (n + 1)) from by rw [← rowsV_snoc]; exact hown')
        have HW3 := Lib.hid (show Below wo.heap.size wo w1 from (HW2.out.alloc HW2.out.size _).grown hgrow (by have := HW2.out.size; simp; omega) (own_ltD HO2.out))
        clear hown' hgrow RI HO2 HW2
        go_wp2_with fail
        go_roundw
        case rel => exact ⟨i + 1, _, by omega, by go_num, HR3, HO3, HW3⟩
        case measure => simp [intOf]; omega
    obtain rfl : i = n := by omega
    have FIN := Lib.hid (HR.out.coR HO.out)
    have HH := Lib.hid (HB.out.trans (HW.out.mono HB.out.size))
    go_wp2_with fail
    go_ret
    obtain ⟨pp, cc, rfl, h2⟩ := FIN.out
    exact ⟨pp, cc, rfl, by rw [HA.out]; exact h2, HH.out⟩
end Go.Proofs.Ytmdhmpfagekonaa
