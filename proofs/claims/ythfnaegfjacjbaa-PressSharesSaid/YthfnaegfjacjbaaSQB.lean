/- Press: the reference's assign (SQ2 SQ3 in one). -/
import Derived.Test.YthfnaegfjacjbaaSQE
import Derived.Test.YthfnaegfjacjbaaSQA
import Derived.Laws.MakeOwn
/- Press: the reference's assign. -/
namespace Go.Proofs.Ythfnaegfjacjbaa.Sea
theorem cnt_top (M : Nat) (s : Nat → Int × Int) : cnt M s ≤ M := by
  induction M with
  | zero => exact Int.le_refl _
  | succ m ih =>
    have : cnt (m + 1) s = cnt m s + if (s m).2 = 0 then 0 else 1 := rfl
    rw [this]
    split <;> omega
/-- Where the room is too little in all, nothing fits. -/
theorem NoF.slack {mo ea : Int} {M : Nat} {T : List Int} (ht : ∀ t ∈ T, 1 ≤ t ∧ t ≤ mo) (h0 : 0 ≤ mo) (h : M * mo - sums (fun t => t) T < 0) : NoF mo ea M T (fun _ => (0, 0)) := fun E s' ok f => by
  obtain ⟨_, h2⟩ := dff_bound (a := 0) f ok (fun t k => (ht t k).1) (Int.le_refl _) (by omega)
  rw [sums_id (dff mo 0) T (fun t k => by have := ht t k; unfold dff; rw [if_neg (by omega), if_pos (by omega)])] at h2
  have := Int.mul_le_mul_of_nonneg_left (cnt_top M s') h0
  rw [Int.mul_comm mo (M : Int)] at this
  omega
end Go.Proofs.Ythfnaegfjacjbaa.Sea
namespace Go.Proofs.Ythfnaegfjacjbaa
open Go.RowKit Go.Proofs.Ythfnaegfjacjbaa.Prs Go.Proofs.Ythfnaegfjacjbaa.Stb
set_option linter.unusedVariables false
set_option linter.unusedSimpArgs false

theorem rput_any {base bs ra rs rk : Nat} (gl : RL base bs ra rs rk) {p : Option Addr} {c M : Nat} {mo ea sl : Int} {T : List Int} (hM : M ≤ 12) (hmo : 0 ≤ mo ∧ mo ≤ 12884901888) (hea : 0 ≤ ea ∧ ea ≤ 12) (hsl : 0 ≤ sl) (h12 : T.length ≤ 12) (ok : ThOk T T.length) (hp : ∀ x, p = some x → 0 < T.length → x.block < base) :
    ∀ (ts : List Int) (k u : Nat) (O : Nat → Int) (s : Nat → Int × Int) (W : World), T.drop k = ts → k ≤ T.length → RM bs ra rs rk p T.length c M mo ea sl W O s → NumR W p T → PB mo ea s → Sea.Cn s u → u ≤ k →
      Calls Try.prog 76 #[.pointer (some ⟨bs, 0, none⟩), .int .i64 k, .int .i64 u] W (RQ bs ra rs rk p T.length c M k mo ea sl ts O s W)
  | [], k, u, O, s, W, hT, hk, h, nr, hs, cn, hu => by
    have e : k = T.length := by
      have := List.drop_eq_nil_iff.1 hT
      omega
    subst e
    exact rput_leaf (base := base) h
  | t :: ts, k, u, O, s, W, hT, hk, h, nr, hs, cn, hu => by
    have kn : k < T.length := by
      apply Classical.byContradiction; intro g
      rw [List.drop_of_length_le (by omega)] at hT; cases hT
    refine rput_step gl hM hmo hea hsl h12 ok hp t ts k u O s W hT h nr hs cn hu ?_
    intro u' O' s' W' h' nr' hs' cn' hu'
    have e : T.drop (k + 1) = ts := by
      rw [List.drop_eq_getElem_cons kn] at hT
      exact (List.cons.inj hT).2
    have := rput_any gl hM hmo hea hsl h12 ok hp ts (k + 1) u' O' s' W' e (by omega) h' nr' hs' cn' hu'
    exact this

set_option maxRecDepth 100000 in
set_option maxHeartbeats 8000000 in
/-- Too little room in all. -/
theorem rput_neg {bs ra rs rk : Nat} {p : Option Addr} {n c M : Nat} {mo ea sl : Int} {T : List Int} {O : Nat → Int} {s : Nat → Int × Int} {W : World} (h : RM bs ra rs rk p n c M mo ea sl W O s) (hsl : sl < 0) (hn : 0 < n) (no : Sea.NoF mo ea M T s) :
    Calls Try.prog 76 #[.pointer (some ⟨bs, 0, none⟩), .int .i64 0, .int .i64 0] W (RQ bs ra rs rk p n c M 0 mo ea sl T O s W) := by
  obtain ⟨c0, -, -, -, -, -, -, c7⟩ := h.cells
  have Q := Lib.hid (show RQ bs ra rs rk p n c M 0 mo ea sl T O s W (.returned (.bool false)) W from ⟨false, O, s, rfl, h, Fm.refl _ _, fun _ _ => rfl, fun _ => ⟨rfl, no⟩, fun e => (by cases e)⟩)
  have d2 : ((0 : Int) == (n : Int)) = false := by simp; omega
  have d4 : ¬ (n = 0) := by omega
  have d3 : decide (sl < 0) = true := decide_eq_true hsl
  clear h no
  go_enter Try.func76, Try.ntmps76
  go_wp2_with fail
  go_ret
  exact Q.out

/-- Four made one behind the other. -/
theorem four (w : World) (o1 o2 o3 o4 : Obj) : ((((w.alloc o1).alloc o2).alloc o3).alloc o4).heap[w.heap.size]? = some o1 ∧ ((((w.alloc o1).alloc o2).alloc o3).alloc o4).heap[w.heap.size + 1]? = some o2 ∧ ((((w.alloc o1).alloc o2).alloc o3).alloc o4).heap[w.heap.size + 1 + 1]? = some o3 ∧ ((((w.alloc o1).alloc o2).alloc o3).alloc o4).heap[w.heap.size + 1 + 1 + 1]? = some o4 ∧ Below w.heap.size w ((((w.alloc o1).alloc o2).alloc o3).alloc o4) := by
  refine ⟨?_, ?_, ?_, ?_, ((((Below.refl _ w).alloc (Nat.le_refl _) _).alloc (by simp <;> omega) _).alloc (by simp <;> omega) _).alloc (by simp <;> omega) _⟩
  · rw [Below.heap_alloc _ _ _ (by simp <;> omega), Below.heap_alloc _ _ _ (by simp <;> omega), Below.heap_alloc _ _ _ (by simp <;> omega), heap_alloc_new]
  · rw [Below.heap_alloc _ _ _ (by simp <;> omega), Below.heap_alloc _ _ _ (by simp <;> omega)]
    have := heap_alloc_new (w.alloc o1) o2
    simpa using this
  · rw [Below.heap_alloc _ _ _ (by simp <;> omega)]
    have := heap_alloc_new ((w.alloc o1).alloc o2) o3
    simpa using this
  · have := heap_alloc_new (((w.alloc o1).alloc o2).alloc o3) o4
    simpa using this

/-- What assign answers. -/
def AsQ (T : List Int) (M : Nat) (mo ea : Int) (w : World) (e : Ending) (w' : World) : Prop := ∃ (f : Bool) (b : Nat), e = .returned (.tuple #[.slice (some ⟨b, 0, none⟩) T.length T.length, .bool f]) ∧ Below w.heap.size w w' ∧ w.heap.size ≤ b ∧ (f = false → Sea.NoF mo ea M T (fun _ => (0, 0))) ∧ (f = true → ∃ E, Sea.Fst mo ea M T (fun _ => (0, 0)) E ∧ NumR w' (some ⟨b, 0, none⟩) ((List.range T.length).map (nv E)))

/-- The memory of the reference's search, made in any order. -/
theorem Mk5.of {w wx : World} {p : Option Addr} {n c M : Nat} {mo ea sl : Int} {bs ra rs rk : Nat}
    (x0 : wx.heap[bs]? = some (.cells #[.slice p n c, .int .i64 M, .int .i64 ea, .int .i64 mo, .slice (some ⟨ra, 0, none⟩) n n, .slice (some ⟨rs, 0, none⟩) M M, .slice (some ⟨rk, 0, none⟩) M M, .int .i64 sl] 92))
    (xa : wx.heap[ra]? = some (.cells (madeCells #[Value.int .i64 0] n) 3)) (xs : wx.heap[rs]? = some (.cells (madeCells #[Value.int .i64 0] M) 3)) (xk : wx.heap[rk]? = some (.cells (madeCells #[Value.int .i64 0] M) 3))
    (st : Below w.heap.size w wx) (ne : (bs ≠ ra ∧ bs ≠ rs ∧ bs ≠ rk) ∧ (ra ≠ rs ∧ ra ≠ rk) ∧ rs ≠ rk) (lo : w.heap.size ≤ ra ∧ w.heap.size ≤ rs ∧ w.heap.size ≤ rk) (l0 : w.heap.size ≤ bs) :
    ∃ bs' ra' rs' rk', Value.pointer (some ⟨bs, 0, none⟩) = .pointer (some ⟨bs', 0, none⟩) ∧ Hid (RM bs' ra' rs' rk' p n c M mo ea sl wx (fun _ => 0) (fun _ => (0, 0))) ∧ Hid (RL w.heap.size bs' ra' rs' rk' ∧ w.heap.size ≤ bs') ∧ Hid (Below w.heap.size w wx) := by
  have mk := fun k => made_ints k
  simp only [Nat.mul_one, show (Value.int .i64 0).cells = #[.int .i64 0] from rfl] at mk
  exact ⟨bs, ra, rs, rk, rfl, Lib.hid ⟨x0, by unfold IR; rw [xa, ← mk n], by unfold IR; rw [xs, ← mk M], by unfold IR; rw [xk, ← mk M]⟩, Lib.hid ⟨⟨ne, lo⟩, l0⟩, Lib.hid st⟩
end Go.Proofs.Ythfnaegfjacjbaa

/- Press: the reference's assign, walked. -/
namespace Go.Proofs.Ythfnaegfjacjbaa
open Go.RowKit Go.Proofs.Ythfnaegfjacjbaa.Prs Go.Proofs.Ythfnaegfjacjbaa.Stb
set_option linter.unusedVariables false
set_option linter.unusedSimpArgs false

theorem take_gi3 {T : List Int} {i : Nat} (h : i < T.length) : T.take (i + 1) = T.take i ++ [gi T i] := by
  rw [List.take_succ_eq_append_getElem h]
  simp [gi, h]
theorem RM.setL {base bs ra rs rk : Nat} {p : Option Addr} {n c M : Nat} {mo ea sl : Int} {W : World} {O : Nat → Int} {s : Nat → Int × Int} (h : RM bs ra rs rk p n c M mo ea sl W O s) (g : RL base bs ra rs rk) (x : Int) : RM bs ra rs rk p n c M mo ea x (W.setCell ⟨bs, 7, none⟩ (.int .i64 x)) O s := by
  have k : ∀ q, q ≠ bs → (W.setCell ⟨bs, 7, none⟩ (.int .i64 x)).heap[q]? = W.heap[q]? := fun q hq => Below.heap_setCell _ _ _ _ hq
  have := heap_setCell_same W bs 7 _ _ (.int .i64 x) h.x0
  exact ⟨by rw [this]; rfl, h.xa.keep (k _ (Ne.symm g.ne.1.1)), h.xs.keep (k _ (Ne.symm g.ne.1.2.1)), h.xk.keep (k _ (Ne.symm g.ne.1.2.2))⟩

set_option maxRecDepth 100000 in
set_option maxHeartbeats 16000000 in
theorem assign_any (p : Option Addr) (c : Nat) (T : List Int) (M : Nat) (mo ea : Int) (w : World) (r : NumR w p T) (n12 : T.length ≤ 12) (ok : ThOk T T.length) (fit : ThFit T mo T.length) (hM : M ≤ 12) (hmo : 0 ≤ mo ∧ mo ≤ 12884901888) (hea : 0 ≤ ea ∧ ea ≤ 12) :
    Calls Try.prog 60 #[.slice p T.length c, .int .i64 M, .int .i64 mo, .int .i64 ea] w (AsQ T M mo ea w) := by
  obtain ⟨i0, hi, hz0, hz1, hz2⟩ := info_parts intInfo
  have R := Lib.hid r
  have OK := Lib.hid ok
  have SLK := Lib.hid (fun (h : (M : Int) * mo - Sea.sums (fun t => t) T < 0) => Sea.NoF.slack (ea := ea) (M := M) (T := T) (mo := mo) (fun t ht => by obtain ⟨i, hi, e⟩ := mem_gi ht; rw [← e]; exact ⟨(ok i hi).1, fit i hi⟩) hmo.1 h)
  obtain ⟨n, hn⟩ : ∃ n, n = T.length := ⟨_, rfl⟩
  rw [← hn] at n12 OK ⊢
  have HN := Lib.hid hn
  clear hn r ok fit
  obtain ⟨sl, hsl⟩ : ∃ sl, sl = (M : Int) * mo := ⟨_, rfl⟩
  have sb : 0 ≤ sl ∧ sl ≤ 12 * 12884901888 := by
    rw [hsl]
    exact ⟨Int.mul_nonneg (by omega) hmo.1, Int.le_trans (Int.mul_le_mul_of_nonneg_left hmo.2 (by omega)) (by omega)⟩
  have ws : IntKind.i64.wrap ((M : Int) * mo) = sl := wI hsl.symm (by omega) (by omega)
  have ws2 : wrap64 ((M : Int) * mo) = sl := by rw [← hsl]; exact IntWalk.wrap64_in _ (by omega)
  rw [← hsl] at SLK
  clear hsl
  go_enter Try.func60, Try.ntmps60
  go_upto_region 1 with fail
  go_cut [10] from 13 to 27 (fun bv wx => ∃ bs ra rs rk, bv = .pointer (some ⟨bs, 0, none⟩) ∧ Hid (RM bs ra rs rk p n c M mo ea sl wx (fun _ => 0) (fun _ => (0, 0))) ∧ Hid (RL w.heap.size bs ra rs rk ∧ w.heap.size ≤ bs) ∧ Hid (Below w.heap.size w wx))
  case first =>
    have MK : ∀ (k : Nat), k ≤ 12 → ∀ W : World, (Instr.makeSlice 23 (.int .i64 (k : Int)) (.int .i64 (k : Int))).run Try.prog W = .ok (.slice (some ⟨W.heap.size, 0, none⟩) k k) (W.alloc (.cells (madeCells (Value.int .i64 0).cells (k * 1)) 3)) := fun k hk W => by
      have := run_make (P := Try.prog) W 23 3 i0 (.int .i64 0) Try.underlying23 hi hz0 .i64 .i64 k k (by omega) (Int.le_refl _) (by rw [hz2]; omega) (by omega)
      rw [hz1] at this
      simpa using this
    have MK1 := MK n n12
    have MK2 := MK M hM
    clear MK
    go_region_held3 (fun _ => True) (trivial) (fail)
    all_goals
      go_wp2_with fail
      go_meet
      refine' Mk5.of ?x0 ?xa ?xs ?xk ?st ?ne ?lo ?l0
      case x0 => first | exact (four _ _ _ _ _).1 | exact (four _ _ _ _ _).2.1 | exact (four _ _ _ _ _).2.2.1 | exact (four _ _ _ _ _).2.2.2.1
      case xa => first | exact (four _ _ _ _ _).1 | exact (four _ _ _ _ _).2.1 | exact (four _ _ _ _ _).2.2.1 | exact (four _ _ _ _ _).2.2.2.1
      case xs => first | exact (four _ _ _ _ _).1 | exact (four _ _ _ _ _).2.1 | exact (four _ _ _ _ _).2.2.1 | exact (four _ _ _ _ _).2.2.2.1
      case xk => first | exact (four _ _ _ _ _).1 | exact (four _ _ _ _ _).2.1 | exact (four _ _ _ _ _).2.2.1 | exact (four _ _ _ _ _).2.2.2.1
      case st => first | exact (four _ _ _ _ _).2.2.2.2 | exact (four _ _ _ _ _).2.2.2.2.drew | exact below_drewN (four _ _ _ _ _).2.2.2.2 _
      case ne => omega
      case lo => omega
      case l0 => omega
  case rest =>
  obtain ⟨bs, ra, rs, rk, rfl, H, GL, HB⟩ := hcut
  clear ws ws2
  go_wp2_with fail
  go_loopw [11] (fun kv wr => ∃ (i : Nat) (x : Int), i ≤ n ∧ kv = .int .i64 i ∧ (-(i : Int) * 1073741824 ≤ x ∧ x ≤ sl) ∧ Hid (x = sl - Sea.sums (fun t => t) (T.take i)) ∧ Hid (RM bs ra rs rk p n c M mo ea x wr (fun _ => 0) (fun _ => (0, 0))) ∧ Hid (Below w.heap.size w wr)) (fun kv _ => n - (intOf kv).toNat)
  case atStart => exact ⟨0, sl, Nat.zero_le _, rfl, by omega, Lib.hid (by simp [Sea.sums]), H, HB⟩
  case round =>
    clear H HB
    obtain ⟨i, x, hi', rfl, xb, XE, H, HB⟩ := hrel
    by_cases t1 : i < n
    · have i1 : (0 : Int) ≤ (i : Int) := by omega
      have i2 : (i : Int) < (n : Int) := by omega
      obtain ⟨y, rfl, ky, cy⟩ := (R.out.below HB.out) i (by have := HN.out; omega)
      have XE2 := Lib.hid (show x - gi T i = sl - Sea.sums (fun t => t) (T.take (i + 1)) from by
        rw [take_gi3 (by have := HN.out; omega), Sea.sums_snoc]
        have := XE.out
        omega)
      have tb := OK.out i t1
      clear XE ky
      generalize gi T i = t at *
      have wx : IntKind.i64.wrap (x - t) = x - t := wI rfl (by omega) (by omega)
      obtain ⟨-, -, -, -, -, -, -, c7⟩ := H.out.cells
      have f7 : wr.frozen? ⟨bs, 7, none⟩ = false := by
        have := H.out.x0
        simp [World.frozen?, this]
      have H2 := Lib.hid (H.out.setL GL.out.1 (x - t))
      have HB2 := Lib.hid (show Below w.heap.size w (wr.setCell ⟨bs, 7, none⟩ (.int .i64 (x - t))) from HB.out.setCell GL.out.2 _)
      clear H HB
      go_upto_region 5 with fail
      go_region_law (fail)
      all_goals
        go_wp2_with fail
        go_roundw
        case rel => exact ⟨i + 1, x - t, by omega, by go_num, by omega, XE2, (by first | exact H2 | exact Lib.hid (H2.out.call ((Below.refl _ _).drew)) | exact Lib.hid (H2.out.call (below_drewN (Below.refl _ _) _))), (by first | exact HB2 | exact Lib.hid HB2.out.drew | exact Lib.hid (below_drewN HB2.out _))⟩
        case measure => simp [intOf]; omega
    obtain rfl : i = n := by omega
    have hp := Lib.hid (show ∀ x, p = some x → 0 < T.length → x.block < w.heap.size from fun x e h0 => by
      obtain ⟨y, e', k, _⟩ := R.out 0 h0
      rw [e] at e'; cases e'; exact k)
    have xe : x = sl - Sea.sums (fun t => t) T := by
      have := XE.out
      rwa [HN.out, List.take_length] at this
    have CALL := Lib.hid (show Calls Try.prog 76 #[.pointer (some ⟨bs, 0, none⟩), .int .i64 0, .int .i64 0] wr (RQ bs ra rs rk p i c M 0 mo ea x T (fun _ => 0) (fun _ => (0, 0)) wr) from by
      by_cases xn : x < 0
      · refine rput_neg H.out xn ?_ (SLK.out (by omega))
        apply Classical.byContradiction; intro g
        have : T = [] := List.eq_nil_of_length_eq_zero (by have := HN.out; omega)
        rw [this] at xe
        simp [Sea.sums] at xe
        omega
      · have := rput_any GL.out.1 (p := p) (c := c) (M := M) (mo := mo) (ea := ea) (sl := x) (T := T) hM hmo hea (by omega) (by rw [← HN.out]; exact n12) (by rw [← HN.out]; exact OK.out) hp.out T 0 0 (fun _ => 0) (fun _ => (0, 0)) wr rfl (Nat.zero_le _) (by rw [← HN.out]; exact H.out) (R.out.below HB.out) (fun b _ => ⟨⟨Int.le_refl _, hmo.1⟩, Int.le_refl _, hea.1⟩) ⟨fun b hb => by omega, fun _ _ => rfl⟩ (Nat.le_refl _)
        rw [← HN.out] at this
        exact this)
    clear SLK XE xe hp
    go_wp2_with fail
    refine CALL.out.mono ?_
    rintro e v ⟨f, O', s', rfl, rm, fm, -, no, yes⟩
    obtain ⟨-, -, -, -, c4, -, -, -⟩ := rm.cells
    have FF := Lib.hid (show ∀ k, AsQ T M mo ea w (.returned (.tuple #[.slice (some ⟨ra, 0, none⟩) i i, .bool f])) (v.drewN k) from fun k => by
      rw [HN.out]
      refine ⟨f, ra, rfl, below_drewN (HB.out.trans ⟨fm.os, fm.tape, fm.output, fm.size, fun q hq => fm.block q (by have := HB.out.size; omega) (GL.out.1.mod hq)⟩) _, GL.out.1.lo.1, fun e => (no e).2, fun e => ?_⟩
      obtain ⟨E, fst, at_⟩ := yes e
      refine ⟨E, fst, ?_⟩
      rw [← HN.out]
      exact (show IR (v.drewN k) ra 3 i (nv E) from rm.xa.ext (fun j hj => by have := at_ j (by omega); rwa [Nat.zero_add] at this)).num (Nat.le_refl _))
    clear no yes rm fm CALL H HB
    go_wp2_with fail
    go_ret2
    first | exact FF.out 0 | exact FF.out _
end Go.Proofs.Ythfnaegfjacjbaa
