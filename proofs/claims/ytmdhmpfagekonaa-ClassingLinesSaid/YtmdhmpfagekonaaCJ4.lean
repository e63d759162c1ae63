/- Classing's lines: the reference's line. -/
import Derived.Test.YtmdhmpfagekonaaLG
namespace Go.Proofs.Ytmdhmpfagekonaa
open Go.RowKit Go.Proofs.Ytmdhmpfagekonaa.Ct Go.Proofs.Ytmdhmpfagekonaa.Ce Go.Proofs.Ytmdhmpfagekonaa.Stb
set_option linter.unusedVariables false
set_option linter.unusedSimpArgs false

theorem inO_def (F : Nat → Fl) (n k : Nat) : inO F n k = F (gi (ordK (fun k => (F k).key) n) k).toNat := rfl
theorem mas_nx (A : Nat → Fl) {i j : Nat} (h : i ≤ j) : mas A i (j + 1) = mas A i j + (A j).gr := by
  show mas A i j + (if i ≤ j then (A j).gr else 0) = _
  rw [if_pos h]
theorem offs_nx (A : Nat → Fl) (c : Int) {i j : Nat} (h : i ≤ j) : offs A c i (j + 1) = offs A c i j + (A j).gr * max ((A j).mic - c) (c - (A j).mic) := by
  show offs A c i j + (if i ≤ j then (A j).gr * max ((A j).mic - c) (c - (A j).mic) else 0) = _
  rw [if_pos h]
theorem offs_bd2 {A : Nat → Fl} {n : Nat} {c : Int} (i : Nat) (h1 : 1 ≤ c) (h2 : c ≤ 10000) (ok : ∀ k, k < n → (A k).ok) : ∀ {j}, j ≤ n → 0 ≤ offs A c i j ∧ offs A c i j ≤ 10737418240000 * j
  | 0, _ => by simp [offs]
  | j + 1, hj => by
    have ih := offs_bd2 i h1 h2 ok (j := j) (by omega)
    have o := ok j (by omega)
    unfold Fl.ok at o
    have m0 : 0 ≤ max ((A j).mic - c) (c - (A j).mic) := by omega
    have m1 : max ((A j).mic - c) (c - (A j).mic) ≤ 10000 := by omega
    have p0 : 0 ≤ (A j).gr * max ((A j).mic - c) (c - (A j).mic) := Int.mul_nonneg (by omega) m0
    have p1 : (A j).gr * max ((A j).mic - c) (c - (A j).mic) ≤ 1073741824 * 10000 := Int.mul_le_mul o.2.2 m1 m0 (by omega)
    unfold offs
    split <;> omega
/-- One fleece of the order: where it lies. -/
structure OrdF (W : World) (p : Option Addr) (q : Option Addr) (m v : Nat) (x y : Addr) (s : Fl) : Prop where
  px : p = some x
  qy : q = some y
  cy : W.cell? (y.add m) = some (.int .i64 (v : Int))
  fl : FlAt W (x.add (v * 6)) s
theorem OrdF.of {W : World} {p q : Option Addr} {n : Nat} {F : Nat → Fl} {O : Nat → Int} (r : FlR W p n F) (ro : NmR W q n O) {m : Nat} (hm : m < n) (b : 0 ≤ O m ∧ O m < n) : ∃ v x y, v < n ∧ O m = (v : Int) ∧ OrdF W p q m v x y (F (O m).toNat) := by
  obtain ⟨v, hv⟩ := Int.eq_ofNat_of_zero_le b.1
  have vn : v < n := by omega
  obtain ⟨x, rfl, hx⟩ := r v vn
  obtain ⟨y, rfl, ky, cy⟩ := ro m hm
  rw [hv] at cy
  exact ⟨v, x, y, vn, hv, rfl, rfl, cy, by rw [hv]; exact hx⟩

set_option maxRecDepth 100000 in
set_option maxHeartbeats 16000000 in
theorem rline_any (p : Option Addr) (c n : Nat) (F : Nat → Fl) (q : Option Addr) (d i j : Nat) (ls le sp : Int) (w : World) (r : FlR w p n F) (ro : NmR w q n (gi (ordK (fun k => (F k).key) n))) (ln : n ≤ 140) (hj : j ≤ n) (ok : ∀ k, k < n → (F k).ok) (kok : ∀ k, k < n → (F k).kok) :
    Calls Try.prog 31 #[.slice p n c, .slice q n d, .int .i64 i, .int .i64 j, .agg #[.int .i64 ls, .int .i64 le, .int .i64 sp]] w (LnQ (inO F n) (gi (ordK (fun k => (F k).key) n)) le sp i j w) := by
  obtain ⟨i0, hi, hz0, hz1, hz2⟩ := info_parts intInfo
  have R := Lib.hid r
  have RO := Lib.hid ro
  have OKA := Lib.hid (inO_ok ok)
  have KOA := Lib.hid (inO_kok kok)
  have UP := Lib.hid (fun x y (h : x ≤ y) (g : y < n) => inO_le F n h g)
  have OB2 := Lib.hid ((ordK_ord (q := fun k => (F k).key) n).2.1)
  have AE := Lib.hid (inO_def F n)
  clear r ro ok kok
  generalize ordK (fun k => (F k).key) n = O at *
  generalize inO F n = A at *
  have G := Lib.hid (fun W (b : Below w.heap.size w W) m (hm : m < n) => show ∃ v x y, v < n ∧ gi O m = (v : Int) ∧ OrdF W p q m v x y (A m) from by rw [AE.out m]; exact OrdF.of (R.out.below b) (RO.out.below b) hm (OB2.out m hm))
  clear R RO
  have W0 := Lib.hid (show let wa := (w.alloc (Obj.cells #[.int .i64 ls, .int .i64 le, .int .i64 sp] 24)).alloc (Obj.cells #[.int .u8 0, .int .u8 0, .int .u8 0, .int .u8 0, .slice none 0 0, .int .i64 0, .int .i64 0, .int .i64 0] 38)
      wa.heap.size = w.heap.size + 2 ∧ OB wa w.heap.size 24 3 (spC ls le sp) ∧ OB wa (w.heap.size + 1) 38 8 (lnC fl0 (.slice none 0 0) 0 0 0) ∧ Below w.heap.size w wa from by
    refine ⟨by simp, ob_old' (by unfold OB; rw [heap_alloc_new]; rfl) _, ?_, ((Below.refl _ _).alloc (Nat.le_refl _) _).alloc (by simp) _⟩
    have := heap_alloc_new (w.alloc (Obj.cells #[.int .i64 ls, .int .i64 le, .int .i64 sp] 24)) (Obj.cells #[.int .u8 0, .int .u8 0, .int .u8 0, .int .u8 0, .slice none 0 0, .int .i64 0, .int .i64 0, .int .i64 0] 38)
    unfold OB
    simp only [World.size_alloc] at this
    rw [this]; rfl)
  go_enter Try.func31, Try.ntmps31
  go_upto_region 1 with fail
  generalize (w.alloc (Obj.cells #[.int .i64 ls, .int .i64 le, .int .i64 sp] 24)).alloc (Obj.cells #[.int .u8 0, .int .u8 0, .int .u8 0, .int .u8 0, .slice none 0 0, .int .i64 0, .int .i64 0, .int .i64 0] 38) = wa at *
  by_cases z0 : j ≤ i
  case pos =>
    have d0 : decide ((j : Int) ≤ (i : Int)) = true := decide_eq_true (by omega)
    obtain ⟨s2, sx, rx0, bl⟩ := W0.out
    have NL := Lib.hid (show ¬ isLine A le sp i j from fun h => absurd h.1 (by omega))
    have rx := Lib.hid (rx0)
    have BL := Lib.hid (bl)
    have q0 : wa.cell? ⟨w.heap.size + 1, 0, none⟩ = some (.int .u8 0) := rx.out.cell (k := 0) (by decide)
    have y0 := rx.out.frozen 0
    have q1 : wa.cell? ⟨w.heap.size + 1, 1, none⟩ = some (.int .u8 0) := rx.out.cell (k := 1) (by decide)
    have y1 := rx.out.frozen 1
    have q2 : wa.cell? ⟨w.heap.size + 1, 2, none⟩ = some (.int .u8 0) := rx.out.cell (k := 2) (by decide)
    have y2 := rx.out.frozen 2
    have q3 : wa.cell? ⟨w.heap.size + 1, 3, none⟩ = some (.int .u8 0) := rx.out.cell (k := 3) (by decide)
    have y3 := rx.out.frozen 3
    have q4 : wa.cell? ⟨w.heap.size + 1, 4, none⟩ = some (.slice none 0 0) := rx.out.cell (k := 4) (by decide)
    have y4 := rx.out.frozen 4
    have q5 : wa.cell? ⟨w.heap.size + 1, 5, none⟩ = some (.int .i64 0) := rx.out.cell (k := 5) (by decide)
    have y5 := rx.out.frozen 5
    have q6 : wa.cell? ⟨w.heap.size + 1, 6, none⟩ = some (.int .i64 0) := rx.out.cell (k := 6) (by decide)
    have y6 := rx.out.frozen 6
    have q7 : wa.cell? ⟨w.heap.size + 1, 7, none⟩ = some (.int .i64 0) := rx.out.cell (k := 7) (by decide)
    have y7 := rx.out.frozen 7
    have RZ := Lib.hid (rz_all rx.out)
    have BZ := Lib.hid (bz_all BL.out rx.out.lt)
    clear rx BL
    go_wp2_with fail
    (try simp only [Exit.inBlock, Exit.then])
    refine bodyPost_ret (results_ln rfl RZ.out rfl) rfl ?_
    exact .inr ⟨NL.out, rfl, BZ.out⟩
  have d0 : decide ((j : Int) ≤ (i : Int)) = false := decide_eq_false (by omega)
  obtain ⟨s2, sx, rx0, bl⟩ := W0.out
  obtain ⟨v, x, y, vn, hv, rfl, rfl, cy, fl⟩ := G.out wa bl i (by omega)
  obtain ⟨z, a0, a1, a2, a3, a4, a5⟩ := fl
  have MX := Lib.hid (show LnM w ls le sp wa.heap.size (A i) (.slice none 0 0) 0 0 0 (wa.alloc (Obj.cells #[.int .u8 (A i).ka, .int .u8 (A i).kb, .int .u8 (A i).kc, .int .u8 (A i).kd, .slice none 0 0, .int .i64 0, .int .i64 0, .int .i64 0] 38)) from
    ⟨ob_old' sx _, ob_old' rx0 _, by unfold OB; rw [heap_alloc_new]; rfl, by omega, bl.alloc bl.size _⟩)
  have GX := Lib.hid (show wa.heap.size = w.heap.size + 2 from s2)
  have v1 : (0 : Int) ≤ (v : Int) := by omega
  have v2 : (v : Int) < (n : Int) := by omega
  have i1 : (0 : Int) ≤ (i : Int) := by omega
  have i2 : (i : Int) < (n : Int) := by omega
  clear sx rx0 bl s2 z hv W0
  obtain ⟨s, hs⟩ : ∃ s, s = A i := ⟨_, rfl⟩
  rw [← hs] at a0 a1 a2 a3 a4 a5 MX
  have HS := Lib.hid hs
  clear hs
  go_upto_region 4 with fail
  generalize wa.alloc (Obj.cells #[.int .u8 s.ka, .int .u8 s.kb, .int .u8 s.kc, .int .u8 s.kd, .slice none 0 0, .int .i64 0, .int .i64 0, .int .i64 0] 38) = wb at *
  generalize wa.heap.size = gx at *
  clear a0 a1 a2 a3 a4 a5 cy
  go_wp2_with fail
  go_loopw [13] (fun mv wr => ∃ (m : Nat) (sv : Value), i ≤ m ∧ m ≤ j ∧ mv = .int .i64 m ∧ Hid (LnM w ls le sp gx s sv (mas A i m) 0 0 wr) ∧ Hid (wr.ownsRow (gx + 1) 3 1 sv (m - i) ((List.range (m - i)).map fun q => Value.int .i64 (gi O (i + q)))) ∧ Hid (∀ q, i ≤ q → q < m → (A q).kk = s.kk)) (fun mv _ => j - (intOf mv).toNat)
  case atStart => exact ⟨i, _, Nat.le_refl _, by omega, rfl, by rw [mas_eq A i (Nat.le_refl _)]; exact MX, Lib.hid (by rw [Nat.sub_self]; exact World.ownsRow_nil _ _ _ _), Lib.hid (fun q a b => by omega)⟩
  case round =>
    clear MX
    obtain ⟨m, sv, hm1, hm2, rfl, HM, HR, HK⟩ := hrel
    by_cases t1 : m < j
    case pos =>
      have m0 : (m : Int) < (j : Int) := by omega
      obtain ⟨u, x', y', un, hu, ex, ey, cy, fl⟩ := G.out wr HM.out.bl m (by omega)
      cases ex
      cases ey
      obtain ⟨-, a0, a1, a2, a3, a4, a5⟩ := fl
      have m1 : (0 : Int) ≤ (m : Int) := by omega
      have m2 : (m : Int) < (n : Int) := by omega
      have u1 : (0 : Int) ≤ (u : Int) := by omega
      have u2 : (u : Int) < (n : Int) := by omega
      have x0 : wr.cell? ⟨gx, 0, none⟩ = some (.int .u8 s.ka) := HM.out.xx.cell (k := 0) (by decide)
      have x1 : wr.cell? ⟨gx, 1, none⟩ = some (.int .u8 s.kb) := HM.out.xx.cell (k := 1) (by decide)
      have x2 : wr.cell? ⟨gx, 2, none⟩ = some (.int .u8 s.kc) := HM.out.xx.cell (k := 2) (by decide)
      have x3 : wr.cell? ⟨gx, 3, none⟩ = some (.int .u8 s.kd) := HM.out.xx.cell (k := 3) (by decide)
      have KE := Lib.hid (kk_eq (KOA.out m (by omega)) (show s.kok from by rw [HS.out]; exact KOA.out i (by omega)))
      have NX := Lib.hid (mas_nx A hm1)
      have KB := Lib.hid (show (A i).kk = (A (j - 1)).kk → (A m).kk = s.kk from fun h => by rw [HS.out]; exact kk_btw (n := n) OKA.out UP.out hm1 (show m ≤ j - 1 by omega) (by omega) h)
      have MB := mas_bd (A := A) (i := i) OKA.out (j := m + 1) (by omega)
      rw [NX.out] at MB
      have ew : IntKind.i64.wrap (mas A i m + (A m).gr) = mas A i m + (A m).gr := hwI (by omega) (by omega)
      clear MB
      obtain ⟨t, ht⟩ : ∃ t, t = A m := ⟨_, rfl⟩
      rw [← ht] at a0 a1 a2 a3 a4 a5 KE NX KB ew
      have HT := Lib.hid ht
      clear ht
      have EK := fun W => eq_kind t.ka t.kb t.kc t.kd s.ka s.kb s.kc s.kd W
      by_cases hk : t.kk = s.kk
      case neg =>
        have hk2 : ¬ (t.ka = s.ka ∧ t.kb = s.kb ∧ t.kc = s.kc ∧ t.kd = s.kd) := fun h => hk (KE.out.2 h)
        simp only [decide_eq_false hk2] at EK
        have NL0 := Lib.hid (show ¬ isLine A le sp i j from fun h => hk (KB.out h.2.1))
        clear hk hk2 KE KB NX ew
        go_upto_region 7 with fail
        go_quiet (fail)
        generalize hwn : wr.drewN nq = wn at *
        have HM2 := Lib.hid (show LnM w ls le sp gx s sv (mas A i m) 0 0 wn from by rw [← hwn]; exact HM.out.call (below_drewN (Below.refl _ _) _))
        clear hwn HM HR x0 x1 x2 x3 a0 a1 a2 a3 a4 a5 cy
        have NL := Lib.hid (NL0.out)
        have rx := Lib.hid (HM2.out.rx)
        have BL := Lib.hid (HM2.out.bl)
        have q0 : wn.cell? ⟨w.heap.size + 1, 0, none⟩ = some (.int .u8 0) := rx.out.cell (k := 0) (by decide)
        have y0 := rx.out.frozen 0
        have q1 : wn.cell? ⟨w.heap.size + 1, 1, none⟩ = some (.int .u8 0) := rx.out.cell (k := 1) (by decide)
        have y1 := rx.out.frozen 1
        have q2 : wn.cell? ⟨w.heap.size + 1, 2, none⟩ = some (.int .u8 0) := rx.out.cell (k := 2) (by decide)
        have y2 := rx.out.frozen 2
        have q3 : wn.cell? ⟨w.heap.size + 1, 3, none⟩ = some (.int .u8 0) := rx.out.cell (k := 3) (by decide)
        have y3 := rx.out.frozen 3
        have q4 : wn.cell? ⟨w.heap.size + 1, 4, none⟩ = some (.slice none 0 0) := rx.out.cell (k := 4) (by decide)
        have y4 := rx.out.frozen 4
        have q5 : wn.cell? ⟨w.heap.size + 1, 5, none⟩ = some (.int .i64 0) := rx.out.cell (k := 5) (by decide)
        have y5 := rx.out.frozen 5
        have q6 : wn.cell? ⟨w.heap.size + 1, 6, none⟩ = some (.int .i64 0) := rx.out.cell (k := 6) (by decide)
        have y6 := rx.out.frozen 6
        have q7 : wn.cell? ⟨w.heap.size + 1, 7, none⟩ = some (.int .i64 0) := rx.out.cell (k := 7) (by decide)
        have y7 := rx.out.frozen 7
        have RZ := Lib.hid (rz_all rx.out)
        have BZ := Lib.hid (bz_all BL.out rx.out.lt)
        clear rx BL
        go_wp2_with fail
        (try simp only [Exit.inBlock, Exit.then])
        refine bodyPost_ret (results_ln rfl RZ.out rfl) rfl ?_
        exact .inr ⟨NL.out, rfl, BZ.out⟩
      have hk2 := KE.out.1 hk
      simp only [decide_eq_true hk2] at EK
      have HK2 := Lib.hid (show ∀ q, i ≤ q → q < m + 1 → (A q).kk = s.kk from fun q b1 b2 => by
        by_cases e : q = m
        · rw [e, ← HT.out]; exact hk
        · exact HK.out q b1 (by omega))
      clear hk hk2 KE KB HK
      go_upto_region 7 with fail
      go_quiet (fail)
      generalize hwn : wr.drewN nq = wn at *
      have HM2 := Lib.hid (show LnM w ls le sp gx s sv (mas A i m) 0 0 wn from by rw [← hwn]; exact HM.out.call (below_drewN (Below.refl _ _) _))
      have HR2 := Lib.hid (show wn.ownsRow (gx + 1) 3 1 sv (m - i) ((List.range (m - i)).map fun q => Value.int .i64 (gi O (i + q))) from by rw [← hwn]; exact HR.out)
      have cy2 : wn.cell? (y.add m) = some (.int .i64 (u : Int)) := by rw [← hwn]; exact cy
      have g5 : wn.cell? ⟨(x.add (u * 6)).block, (x.add (u * 6)).off + 5, none⟩ = some (.int .i64 t.gr) := by rw [← hwn]; exact a5
      clear hwn HM HR x0 x1 x2 x3 a0 a1 a2 a3 a4 a5 cy EK
      have x4 : wn.cell? ⟨gx, 4, none⟩ = some sv := HM2.out.xx.cell (k := 4) (by decide)
      go_upto_region 9 with fail
      refine wp_region_G (fun w' => w'.cell? ⟨gx, 4, none⟩ = some sv ∧ w'.cell? (y.add m) = some (.int .i64 (u : Int))) 7 (by kernel_rfl) ?_
      have hS : wn.drew.cell? ⟨gx, 4, none⟩ = some sv ∧ wn.drew.cell? (y.add m) = some (.int .i64 (u : Int)) := ⟨cellDr x4, cellDr cy2⟩
      refine wpAnyG_take (i := 0) (oi := _) (v := .pointer (some ⟨gx, 4, none⟩)) rfl (by kernel_rfl) (by kernel_rfl) (by kernel_rfl) (by kernel_rfl) (by kernel_rfl) (by decide) (fun _ _ _ h => h) (by rfl) (fun w' hw' => ?_) hS ?_
      · obtain ⟨h1, h2⟩ := hw'
        go_simp
      try simp only [Act.put, List.setIfInBounds_toArray, List.set_cons_zero, List.set_cons_succ]
      refine wpAnyG_take (i := 1) (oi := _) (v := sv) rfl (by kernel_rfl) (by kernel_rfl) (by kernel_rfl) (by kernel_rfl) (by kernel_rfl) (by decide) (fun _ _ _ h => h) (by rfl) (fun w' hw' => ?_) hS ?_
      · obtain ⟨h1, h2⟩ := hw'
        go_simp
      try simp only [Act.put, List.setIfInBounds_toArray, List.set_cons_zero, List.set_cons_succ]
      refine wpAnyG_take (i := 2) (oi := _) (v := .slice (some y) n d) rfl (by kernel_rfl) (by kernel_rfl) (by kernel_rfl) (by kernel_rfl) (by kernel_rfl) (by decide) (fun _ _ _ h => h) (by rfl) (fun w' hw' => ?_) hS ?_
      · obtain ⟨h1, h2⟩ := hw'
        go_simp
      try simp only [Act.put, List.setIfInBounds_toArray, List.set_cons_zero, List.set_cons_succ]
      refine wpAnyG_take (i := 3) (oi := _) (v := .int .i64 (m : Int)) rfl (by kernel_rfl) (by kernel_rfl) (by kernel_rfl) (by kernel_rfl) (by kernel_rfl) (by decide) (fun _ _ _ h => h) (by rfl) (fun w' hw' => ?_) hS ?_
      · obtain ⟨h1, h2⟩ := hw'
        go_simp
      try simp only [Act.put, List.setIfInBounds_toArray, List.set_cons_zero, List.set_cons_succ]
      refine wpAnyG_take (i := 4) (oi := _) (v := .pointer (some (y.add m))) rfl (by kernel_rfl) (by kernel_rfl) (by kernel_rfl) (by kernel_rfl) (by kernel_rfl) (by decide) (fun _ _ _ h => h) (by rfl) (fun w' hw' => ?_) hS ?_
      · obtain ⟨h1, h2⟩ := hw'
        go_simp
      try simp only [Act.put, List.setIfInBounds_toArray, List.set_cons_zero, List.set_cons_succ]
      refine wpAnyG_take (i := 5) (oi := _) (v := .int .i64 (u : Int)) rfl (by kernel_rfl) (by kernel_rfl) (by kernel_rfl) (by kernel_rfl) (by kernel_rfl) (by decide) (fun _ _ _ h => h) (by rfl) (fun w' hw' => ?_) hS ?_
      · obtain ⟨h1, h2⟩ := hw'
        go_simp
      try simp only [Act.put, List.setIfInBounds_toArray, List.set_cons_zero, List.set_cons_succ]
      refine wpAnyG_one (i := 6) (o := _) (by kernel_rfl) rfl (fun KK hK => ?_)
      go_simp
      refine hK.out _ _ (fun _ => by first | exact ⟨cell_alJ _ (cellDr x4), cell_alJ _ (cellDr cy2)⟩ | exact ⟨cellDr (cell_alJ _ x4), cellDr (cell_alJ _ cy2)⟩) ?_
      try simp only [Act.put, List.setIfInBounds_toArray, List.set_cons_zero, List.set_cons_succ]
      clear hK
      refine wpAnyG_one (i := 7) (o := _) (by kernel_rfl) rfl (fun KK hK => ?_)
      refine step_append_lies _ (by rfl) _ _ _ (by rfl) (gx + 1) 3 i0 (.int .i64 0) 1 8 Try.underlying36 hi hz0 hz1 hz2 rfl (by omega) sv (m - i) ((List.range (m - i)).map fun q => Value.int .i64 (gi O (i + q))) (by rfl) (HR2.out.alloc _) ⟨wn.heap.size, 0, none⟩ 1 1 [.int .i64 (u : Int)] (by rfl) (by rfl) (World.news_of_block (cs := #[.int .i64 (u : Int)]) (t := 3) (fr := (0, 0)) (heap_alloc_new _ _)) (by simp [Value.oneCell']) (by omega) (by unfold maxLen; omega) (by omega) (by have := HM2.out.xx.lt; show gx + 1 ≤ (wn.alloc _).heap.size; simp; omega) (wn.heap.size + 1) (by show (wn.alloc _).heap.size = _; simp) ?_
      intro hh cap' w1 hown1 hgrow hat hlt
      have HM3 := Lib.hid (HM2.out.grown (o := Obj.cells #[.int .i64 (u : Int)] 3) (W' := w1) (r := sv.ownBlock) ⟨hgrow.os, hgrow.tape, hgrow.output, hgrow.size, hgrow.block⟩ (fun k e => by have := own_ltD HR2.out k e; omega))
      have HR3 := Lib.hid (row_snoc (f := fun q => gi O (i + q)) (by rw [show gi O (i + (m - i)) = (u : Int) from by rw [show i + (m - i) = m by omega]; exact hu]; exact hown1))
      clear hown1 hgrow hat hlt HR2
      have x4 : w1.cell? ⟨gx, 4, none⟩ = some sv := HM3.out.xx.cell (k := 4) (by decide)
      have f4 := HM3.out.xx.frozen 4
      refine hK.out _ _ (fun h => absurd h (by decide)) ?_
      try simp only [Act.put, List.setIfInBounds_toArray, List.set_cons_zero, List.set_cons_succ]
      clear hK
      refine wpAnyG_one (i := 8) (o := _) (by kernel_rfl) rfl (fun KK hK => ?_)
      go_simp
      refine hK.out _ _ (fun h => absurd h (by decide)) ?_
      try simp only [Act.put, List.setIfInBounds_toArray, List.set_cons_zero, List.set_cons_succ]
      clear hK
      refine wpAnyG_one (i := 9) (o := _) (by kernel_rfl) rfl (fun KK hK => ?_)
      go_simp
      refine hK.out _ _ (fun h => absurd h (by decide)) ?_
      try simp only [Act.put, List.setIfInBounds_toArray, List.set_cons_zero, List.set_cons_succ]
      clear hK
      refine wpAnyG_done (by kernel_rfl) ?_ _
      generalize hw2 : w1.setCell ⟨gx, 4, none⟩ (.slice (some ⟨hh, 0, none⟩) (m - i + 1) cap') = w2 at *
      have HM4 := Lib.hid (show LnM w ls le sp gx s (.slice (some ⟨hh, 0, none⟩) (m - i + 1) cap') (mas A i m) 0 0 w2 from by rw [← hw2]; exact HM3.out.set4 _)
      have HR4 := Lib.hid (show w2.ownsRow (gx + 1) 3 1 (.slice (some ⟨hh, 0, none⟩) (m - i + 1) cap') (m - i + 1) ((List.range (m - i + 1)).map fun q => Value.int .i64 (gi O (i + q))) from rowKeep HR3.out (Nat.lt_succ_self _) hw2.symm)
      clear hw2 HM3 HR3 x4 f4 hS HM2 cy2 g5
      obtain ⟨u', x', y', -, hu', ex, ey, cy, fl⟩ := G.out w2 HM4.out.bl m (by omega)
      cases ex
      cases ey
      have eu : u' = u := by omega
      subst eu
      rw [← HT.out] at fl
      obtain ⟨-, -, -, -, -, -, a5⟩ := fl
      have x5 : w2.cell? ⟨gx, 5, none⟩ = some (.int .i64 (mas A i m)) := HM4.out.xx.cell (k := 5) (by decide)
      have f5 := HM4.out.xx.frozen 5
      clear hu'
      go_upto_region 10 with fail
      refine wp_region_G (fun w' => w'.cell? ⟨gx, 5, none⟩ = some (.int .i64 (mas A i m)) ∧ w'.cell? (y.add m) = some (.int .i64 (u' : Int)) ∧ w'.cell? ⟨(x.add (u' * 6)).block, (x.add (u' * 6)).off + 5, none⟩ = some (.int .i64 t.gr)) 11 (by kernel_rfl) ?_
      have hS : w2.drew.cell? ⟨gx, 5, none⟩ = some (.int .i64 (mas A i m)) ∧ w2.drew.cell? (y.add m) = some (.int .i64 (u' : Int)) ∧ w2.drew.cell? ⟨(x.add (u' * 6)).block, (x.add (u' * 6)).off + 5, none⟩ = some (.int .i64 t.gr) := ⟨cellDr x5, cellDr cy, cellDr a5⟩
      refine wpAnyG_take (i := 0) (oi := _) (v := .pointer (some ⟨gx, 5, none⟩)) rfl (by kernel_rfl) (by kernel_rfl) (by kernel_rfl) (by kernel_rfl) (by kernel_rfl) (by decide) (fun _ _ _ h => h) (by rfl) (fun w' hw' => ?_) hS ?_
      · obtain ⟨h1, h2, h3⟩ := hw'
        go_simp
      try simp only [Act.put, List.setIfInBounds_toArray, List.set_cons_zero, List.set_cons_succ]
      refine wpAnyG_take (i := 1) (oi := _) (v := .int .i64 (mas A i m)) rfl (by kernel_rfl) (by kernel_rfl) (by kernel_rfl) (by kernel_rfl) (by kernel_rfl) (by decide) (fun _ _ _ h => h) (by rfl) (fun w' hw' => ?_) hS ?_
      · obtain ⟨h1, h2, h3⟩ := hw'
        go_simp
      try simp only [Act.put, List.setIfInBounds_toArray, List.set_cons_zero, List.set_cons_succ]
      refine wpAnyG_take (i := 2) (oi := _) (v := .slice (some x) n c) rfl (by kernel_rfl) (by kernel_rfl) (by kernel_rfl) (by kernel_rfl) (by kernel_rfl) (by decide) (fun _ _ _ h => h) (by rfl) (fun w' hw' => ?_) hS ?_
      · obtain ⟨h1, h2, h3⟩ := hw'
        go_simp
      try simp only [Act.put, List.setIfInBounds_toArray, List.set_cons_zero, List.set_cons_succ]
      refine wpAnyG_take (i := 3) (oi := _) (v := .slice (some y) n d) rfl (by kernel_rfl) (by kernel_rfl) (by kernel_rfl) (by kernel_rfl) (by kernel_rfl) (by decide) (fun _ _ _ h => h) (by rfl) (fun w' hw' => ?_) hS ?_
      · obtain ⟨h1, h2, h3⟩ := hw'
        go_simp
      try simp only [Act.put, List.setIfInBounds_toArray, List.set_cons_zero, List.set_cons_succ]
      refine wpAnyG_take (i := 4) (oi := _) (v := .int .i64 (m : Int)) rfl (by kernel_rfl) (by kernel_rfl) (by kernel_rfl) (by kernel_rfl) (by kernel_rfl) (by decide) (fun _ _ _ h => h) (by rfl) (fun w' hw' => ?_) hS ?_
      · obtain ⟨h1, h2, h3⟩ := hw'
        go_simp
      try simp only [Act.put, List.setIfInBounds_toArray, List.set_cons_zero, List.set_cons_succ]
      refine wpAnyG_take (i := 5) (oi := _) (v := .pointer (some (y.add m))) rfl (by kernel_rfl) (by kernel_rfl) (by kernel_rfl) (by kernel_rfl) (by kernel_rfl) (by decide) (fun _ _ _ h => h) (by rfl) (fun w' hw' => ?_) hS ?_
      · obtain ⟨h1, h2, h3⟩ := hw'
        go_simp
      try simp only [Act.put, List.setIfInBounds_toArray, List.set_cons_zero, List.set_cons_succ]
      refine wpAnyG_take (i := 6) (oi := _) (v := .int .i64 (u' : Int)) rfl (by kernel_rfl) (by kernel_rfl) (by kernel_rfl) (by kernel_rfl) (by kernel_rfl) (by decide) (fun _ _ _ h => h) (by rfl) (fun w' hw' => ?_) hS ?_
      · obtain ⟨h1, h2, h3⟩ := hw'
        go_simp
      try simp only [Act.put, List.setIfInBounds_toArray, List.set_cons_zero, List.set_cons_succ]
      refine wpAnyG_take (i := 7) (oi := _) (v := .pointer (some (x.add (u' * 6)))) rfl (by kernel_rfl) (by kernel_rfl) (by kernel_rfl) (by kernel_rfl) (by kernel_rfl) (by decide) (fun _ _ _ h => h) (by rfl) (fun w' hw' => ?_) hS ?_
      · obtain ⟨h1, h2, h3⟩ := hw'
        go_simp
      try simp only [Act.put, List.setIfInBounds_toArray, List.set_cons_zero, List.set_cons_succ]
      refine wpAnyG_take (i := 8) (oi := _) (v := .pointer (some ⟨(x.add (u' * 6)).block, (x.add (u' * 6)).off + 5, none⟩)) rfl (by kernel_rfl) (by kernel_rfl) (by kernel_rfl) (by kernel_rfl) (by kernel_rfl) (by decide) (fun _ _ _ h => h) (by rfl) (fun w' hw' => ?_) hS ?_
      · obtain ⟨h1, h2, h3⟩ := hw'
        go_simp
      try simp only [Act.put, List.setIfInBounds_toArray, List.set_cons_zero, List.set_cons_succ]
      refine wpAnyG_take (i := 9) (oi := _) (v := .int .i64 t.gr) rfl (by kernel_rfl) (by kernel_rfl) (by kernel_rfl) (by kernel_rfl) (by kernel_rfl) (by decide) (fun _ _ _ h => h) (by rfl) (fun w' hw' => ?_) hS ?_
      · obtain ⟨h1, h2, h3⟩ := hw'
        go_simp
      try simp only [Act.put, List.setIfInBounds_toArray, List.set_cons_zero, List.set_cons_succ]
      refine wpAnyG_take (i := 10) (oi := _) (v := .int .i64 (mas A i m + t.gr)) rfl (by kernel_rfl) (by kernel_rfl) (by kernel_rfl) (by kernel_rfl) (by kernel_rfl) (by decide) (fun _ _ _ h => h) (by rfl) (fun w' hw' => ?_) hS ?_
      · obtain ⟨h1, h2, h3⟩ := hw'
        go_simp
      try simp only [Act.put, List.setIfInBounds_toArray, List.set_cons_zero, List.set_cons_succ]
      refine wpAnyG_one (i := 11) (o := _) (by kernel_rfl) rfl (fun KK hK => ?_)
      go_simp
      refine hK.out _ _ (fun h => absurd h (by decide)) ?_
      try simp only [Act.put, List.setIfInBounds_toArray, List.set_cons_zero, List.set_cons_succ]
      clear hK
      refine wpAnyG_one (i := 12) (o := _) (by kernel_rfl) rfl (fun KK hK => ?_)
      go_simp
      refine hK.out _ _ (fun h => absurd h (by decide)) ?_
      try simp only [Act.put, List.setIfInBounds_toArray, List.set_cons_zero, List.set_cons_succ]
      clear hK
      refine wpAnyG_done (by kernel_rfl) ?_ _
      have HM5 := Lib.hid (show LnM w ls le sp gx s (.slice (some ⟨hh, 0, none⟩) (m - i + 1) cap') (mas A i (m + 1)) 0 0 (w2.setCell ⟨gx, 5, none⟩ (.int .i64 (mas A i m + t.gr))).drew from by rw [NX.out]; exact (HM4.out.set5 _).call (Below.refl _ _).drew)
      have HR5 := Lib.hid (show (w2.setCell ⟨gx, 5, none⟩ (.int .i64 (mas A i m + t.gr))).drew.ownsRow (gx + 1) 3 1 (.slice (some ⟨hh, 0, none⟩) (m - i + 1) cap') (m - i + 1) ((List.range (m - i + 1)).map fun q => Value.int .i64 (gi O (i + q))) from (rowKeep HR4.out (Nat.lt_succ_self _) rfl : (w2.setCell ⟨gx, 5, none⟩ (.int .i64 (mas A i m + t.gr))).ownsRow (gx + 1) 3 1 (.slice (some ⟨hh, 0, none⟩) (m - i + 1) cap') (m - i + 1) ((List.range (m - i + 1)).map fun q => Value.int .i64 (gi O (i + q)))))
      clear HM4 HR4 x5 f5 a5 cy hS NX
      go_wp2_with fail
      go_roundw
      case rel => exact ⟨m + 1, _, by omega, by omega, by go_num, HM5, by rw [show m + 1 - i = m - i + 1 by omega]; exact HR5, HK2⟩
      case measure => simp [intOf]; omega
    obtain rfl : m = j := by omega
    have ij : i < m := by omega
    obtain ⟨jj, hjj⟩ : ∃ jj, m = jj + 1 := ⟨m - 1, by omega⟩
    obtain ⟨u, x', y', un, hu, ex, ey, cy, fl⟩ := G.out wr HM.out.bl jj (by omega)
    cases ex
    cases ey
    obtain ⟨-, a0, a1, a2, a3, a4, a5⟩ := fl
    obtain ⟨u', x', y', un', hu', ex, ey, cy', fl⟩ := G.out wr HM.out.bl i (by omega)
    cases ex
    cases ey
    rw [← HS.out] at fl
    obtain ⟨-, b0, b1, b2, b3, b4, b5⟩ := fl
    have j1 : (0 : Int) ≤ (jj : Int) := by omega
    have j2 : (jj : Int) < (n : Int) := by omega
    have u1 : (0 : Int) ≤ (u : Int) := by omega
    have u2 : (u : Int) < (n : Int) := by omega
    have u3 : (0 : Int) ≤ (u' : Int) := by omega
    have u4 : (u' : Int) < (n : Int) := by omega
    have eJ : IntKind.i64.wrap ((m : Int) - 1) = (jj : Int) := by rw [hwI (by omega) (by omega)]; omega
    have o1 := OKA.out jj (by omega)
    have o2 := OKA.out i (by omega)
    rw [← HS.out] at o2
    unfold Fl.ok at o1 o2
    have eS : IntKind.i64.wrap ((A jj).mic - s.mic) = (A jj).mic - s.mic := hwI (by omega) (by omega)
    have JJ := Lib.hid (show (A (m - 1)).kk = s.kk ∧ A (m - 1) = A jj from ⟨HK.out (m - 1) (by omega) (by omega), by rw [hjj]; rfl⟩)
    have x5 : wr.cell? ⟨gx, 5, none⟩ = some (.int .i64 (mas A i m)) := HM.out.xx.cell (k := 5) (by decide)
    have s1 : wr.cell? ⟨w.heap.size, 1, none⟩ = some (.int .i64 le) := HM.out.sx.cell (k := 1) (by decide)
    have s2 : wr.cell? ⟨w.heap.size, 2, none⟩ = some (.int .i64 sp) := HM.out.sx.cell (k := 2) (by decide)
    have MBB := Lib.hid (mas_bd (A := A) (i := i) OKA.out (j := m) (by omega))
    clear o1 o2 hjj a0 a1 a2 a3 a5 b0 b1 b2 b3 b5
    obtain ⟨jm, hjm⟩ : ∃ jm, jm = (A jj).mic := ⟨_, rfl⟩
    rw [← hjm] at a4 eS
    have HJM := Lib.hid hjm
    clear hjm
    by_cases zl : mas A i m < le
    case pos =>
      have dl : decide (mas A i m < le) = true := decide_eq_true zl
      have NL0 := Lib.hid (show ¬ isLine A le sp i m from fun h => by have := h.2.2.2; omega)
      clear zl
      go_wp2_with fail
      go_upto_region 11 with fail
      go_quiet (fail)
      generalize hwn : wr.drewN nq = wn at *
      have HM2 := Lib.hid (show LnM w ls le sp gx s sv (mas A i m) 0 0 wn from by rw [← hwn]; exact HM.out.call (below_drewN (Below.refl _ _) _))
      clear hwn HM HR x5 s1 s2 a4 b4 cy cy'
      have NL := Lib.hid (NL0.out)
      have rx := Lib.hid (HM2.out.rx)
      have BL := Lib.hid (HM2.out.bl)
      have q0 : wn.cell? ⟨w.heap.size + 1, 0, none⟩ = some (.int .u8 0) := rx.out.cell (k := 0) (by decide)
      have y0 := rx.out.frozen 0
      have q1 : wn.cell? ⟨w.heap.size + 1, 1, none⟩ = some (.int .u8 0) := rx.out.cell (k := 1) (by decide)
      have y1 := rx.out.frozen 1
      have q2 : wn.cell? ⟨w.heap.size + 1, 2, none⟩ = some (.int .u8 0) := rx.out.cell (k := 2) (by decide)
      have y2 := rx.out.frozen 2
      have q3 : wn.cell? ⟨w.heap.size + 1, 3, none⟩ = some (.int .u8 0) := rx.out.cell (k := 3) (by decide)
      have y3 := rx.out.frozen 3
      have q4 : wn.cell? ⟨w.heap.size + 1, 4, none⟩ = some (.slice none 0 0) := rx.out.cell (k := 4) (by decide)
      have y4 := rx.out.frozen 4
      have q5 : wn.cell? ⟨w.heap.size + 1, 5, none⟩ = some (.int .i64 0) := rx.out.cell (k := 5) (by decide)
      have y5 := rx.out.frozen 5
      have q6 : wn.cell? ⟨w.heap.size + 1, 6, none⟩ = some (.int .i64 0) := rx.out.cell (k := 6) (by decide)
      have y6 := rx.out.frozen 6
      have q7 : wn.cell? ⟨w.heap.size + 1, 7, none⟩ = some (.int .i64 0) := rx.out.cell (k := 7) (by decide)
      have y7 := rx.out.frozen 7
      have RZ := Lib.hid (rz_all rx.out)
      have BZ := Lib.hid (bz_all BL.out rx.out.lt)
      clear rx BL
      go_wp2_with fail
      (try simp only [Exit.inBlock, Exit.then])
      refine bodyPost_ret (results_ln rfl RZ.out rfl) rfl ?_
      exact .inr ⟨NL.out, rfl, BZ.out⟩
    have dl : decide (mas A i m < le) = false := decide_eq_false zl
    by_cases zs : sp < jm - s.mic
    case pos =>
      have ds : decide (sp < jm - s.mic) = true := decide_eq_true zs
      have NL0 := Lib.hid (show ¬ isLine A le sp i m from fun h => by
        have := h.2.2.1
        rw [JJ.out.2, ← HJM.out, ← HS.out] at this
        omega)
      clear zl zs
      go_wp2_with fail
      go_upto_region 11 with fail
      go_quiet (fail)
      generalize hwn : wr.drewN nq = wn at *
      have HM2 := Lib.hid (show LnM w ls le sp gx s sv (mas A i m) 0 0 wn from by rw [← hwn]; exact HM.out.call (below_drewN (Below.refl _ _) _))
      clear hwn HM HR x5 s1 s2 a4 b4 cy cy'
      have NL := Lib.hid (NL0.out)
      have rx := Lib.hid (HM2.out.rx)
      have BL := Lib.hid (HM2.out.bl)
      have q0 : wn.cell? ⟨w.heap.size + 1, 0, none⟩ = some (.int .u8 0) := rx.out.cell (k := 0) (by decide)
      have y0 := rx.out.frozen 0
      have q1 : wn.cell? ⟨w.heap.size + 1, 1, none⟩ = some (.int .u8 0) := rx.out.cell (k := 1) (by decide)
      have y1 := rx.out.frozen 1
      have q2 : wn.cell? ⟨w.heap.size + 1, 2, none⟩ = some (.int .u8 0) := rx.out.cell (k := 2) (by decide)
      have y2 := rx.out.frozen 2
      have q3 : wn.cell? ⟨w.heap.size + 1, 3, none⟩ = some (.int .u8 0) := rx.out.cell (k := 3) (by decide)
      have y3 := rx.out.frozen 3
      have q4 : wn.cell? ⟨w.heap.size + 1, 4, none⟩ = some (.slice none 0 0) := rx.out.cell (k := 4) (by decide)
      have y4 := rx.out.frozen 4
      have q5 : wn.cell? ⟨w.heap.size + 1, 5, none⟩ = some (.int .i64 0) := rx.out.cell (k := 5) (by decide)
      have y5 := rx.out.frozen 5
      have q6 : wn.cell? ⟨w.heap.size + 1, 6, none⟩ = some (.int .i64 0) := rx.out.cell (k := 6) (by decide)
      have y6 := rx.out.frozen 6
      have q7 : wn.cell? ⟨w.heap.size + 1, 7, none⟩ = some (.int .i64 0) := rx.out.cell (k := 7) (by decide)
      have y7 := rx.out.frozen 7
      have RZ := Lib.hid (rz_all rx.out)
      have BZ := Lib.hid (bz_all BL.out rx.out.lt)
      clear rx BL
      go_wp2_with fail
      (try simp only [Exit.inBlock, Exit.then])
      refine bodyPost_ret (results_ln rfl RZ.out rfl) rfl ?_
      exact .inr ⟨NL.out, rfl, BZ.out⟩
    have ds : decide (sp < jm - s.mic) = false := decide_eq_false zs
    have IL := Lib.hid (show isLine A le sp i m from ⟨ij, by rw [JJ.out.1, HS.out], by rw [JJ.out.2, ← HJM.out, ← HS.out]; omega, by omega⟩)
    clear zl zs
    go_wp2_with fail
    go_upto_region 11 with fail
    go_quiet (fail)
    generalize hwn : wr.drewN nq = wn at *
    have HM2 := Lib.hid (show LnM w ls le sp gx s sv (mas A i m) 0 0 wn from by rw [← hwn]; exact HM.out.call (below_drewN (Below.refl _ _) _))
    have HR2 := Lib.hid (show wn.ownsRow (gx + 1) 3 1 sv (m - i) ((List.range (m - i)).map fun q => Value.int .i64 (gi O (i + q))) from by rw [← hwn]; exact HR.out)
    clear hwn HM HR x5 s1 s2 a4 b4 cy cy' HK JJ HJM
    go_wp2_with fail
    have CF := Lib.hid (cenF_lt (A := A) (i := i) (k := m - i) (p := i) (j := m) (by omega) (by omega) MBB.out.1)
    have CD := Lib.hid (show ∀ k, cenF A (mas A i m) i (m - i) i = k → cen A i m = (A k).mic from fun k h => by rw [← h]; rfl)
    have CO := Lib.hid (fun k (h : k < m) => (OKA.out k (by omega)).1)
    go_loopw [14, 15] (fun gv kv wr => ∃ (k : Nat) (ce : Int), i ≤ k ∧ k ≤ m ∧ kv = .int .i64 k ∧ gv = .int .i64 (mas A i k) ∧ Hid ((ce = 0 ∧ cenF A (mas A i m) i (m - k) k = cenF A (mas A i m) i (m - i) i) ∨ (ce = cen A i m ∧ 1 ≤ ce)) ∧ Hid (k < m ∨ ce ≠ 0) ∧ Hid (LnM w ls le sp gx s sv (mas A i m) ce 0 wr) ∧ Hid (wr.ownsRow (gx + 1) 3 1 sv (m - i) ((List.range (m - i)).map fun q => Value.int .i64 (gi O (i + q))))) (fun _ kv _ => m - (intOf kv).toNat)
    case atStart => exact ⟨i, 0, Nat.le_refl _, by omega, rfl, by rw [mas_eq A i (Nat.le_refl _)], Lib.hid (.inl ⟨rfl, rfl⟩), Lib.hid (.inl ij), HM2, HR2⟩
    case round =>
      clear HM2 HR2
      obtain ⟨k, ce, hk1, hk2, rfl, rfl, HC, HD, HM, HR⟩ := hrel
      have x6 : wr.cell? ⟨gx, 6, none⟩ = some (.int .i64 ce) := HM.out.xx.cell (k := 6) (by decide)
      by_cases zc : ce = 0
      case pos =>
        subst zc
        have km : k < m := by
          rcases HD.out with h | h
          · exact h
          · exact absurd rfl h
        have HE := Lib.hid (show cenF A (mas A i m) i (m - k) k = cenF A (mas A i m) i (m - i) i from by
          rcases HC.out with h | h
          · exact h.2
          · omega)
        clear HC HD
        have k1 : (0 : Int) ≤ (k : Int) := by omega
        have k2 : (k : Int) < (m : Int) := by omega
        have k3 : (k : Int) < (n : Int) := by omega
        obtain ⟨u, x', y', un, hu, ex, ey, cy, fl⟩ := G.out wr HM.out.bl k (by omega)
        cases ex
        cases ey
        obtain ⟨-, a0, a1, a2, a3, a4, a5⟩ := fl
        have u1 : (0 : Int) ≤ (u : Int) := by omega
        have u2 : (u : Int) < (n : Int) := by omega
        have x5 : wr.cell? ⟨gx, 5, none⟩ = some (.int .i64 (mas A i m)) := HM.out.xx.cell (k := 5) (by decide)
        have f6 := HM.out.xx.frozen 6
        have NX := Lib.hid (mas_nx A hk1)
        have MB := mas_bd (A := A) (i := i) OKA.out (j := k + 1) (by omega)
        have e1 : IntKind.i64.wrap (mas A i k + (A k).gr) = mas A i (k + 1) := by rw [← NX.out]; exact hwI (by omega) (by omega)
        have e2 : IntKind.i64.wrap (2 * mas A i (k + 1)) = 2 * mas A i (k + 1) := hwI (by omega) (by omega)
        have cb := CO.out k km
        have CE := Lib.hid (show cenF A (mas A i m) i (m - k) k = if mas A i m ≤ 2 * mas A i (k + 1) then k else cenF A (mas A i m) i (m - (k + 1)) (k + 1) from by
          rw [show m - k = (m - (k + 1)) + 1 by omega]; rfl)
        have LT := CF.out
        clear MB a0 a1 a2 a3
        by_cases zz : mas A i m ≤ 2 * mas A i (k + 1)
        · have dz : decide (mas A i m ≤ 2 * mas A i (k + 1)) = true := decide_eq_true zz
          have ET := Lib.hid (show (A k).mic = cen A i m from (CD.out k (by rw [← HE.out, CE.out, if_pos zz])).symm)
          have HM2 := Lib.hid (HM.out.set6 (A k).mic)
          have HR2 := Lib.hid (rowKeep (k := 6) (x := .int .i64 (A k).mic) HR.out (Nat.lt_succ_self gx) rfl)
          have CP := Lib.hid cb
          clear zz CE HE LT CD CF cb HM HR
          generalize (A k).mic = mi at *
          generalize hmk : mas A i (k + 1) = mk1 at *
          have HMK := Lib.hid hmk
          clear hmk
          go_wp2_with fail
          go_roundw
          case rel => exact ⟨k + 1, mi, by omega, by omega, by go_num, by rw [HMK.out], Lib.hid (.inr ⟨ET.out, CP.out.1⟩), Lib.hid (.inr (by have := CP.out.1; omega)), HM2, HR2⟩
          case measure => simp [intOf]; omega
        · have dz : decide (mas A i m ≤ 2 * mas A i (k + 1)) = false := decide_eq_false zz
          have HE2 := Lib.hid (show cenF A (mas A i m) i (m - (k + 1)) (k + 1) = cenF A (mas A i m) i (m - i) i from by rw [← HE.out, CE.out, if_neg zz])
          have KM2 := Lib.hid (show k + 1 < m from by
            apply Classical.byContradiction; intro h
            have e : k + 1 = m := by omega
            rw [e] at zz
            have := MBB.out.1
            omega)
          clear zz CE HE LT CD CF cb
          generalize hmk : mas A i (k + 1) = mk1 at *
          have HMK := Lib.hid hmk
          clear hmk
          go_wp2_with fail
          go_roundw
          case rel => exact ⟨k + 1, 0, by omega, by omega, by go_num, by rw [HMK.out], Lib.hid (.inl ⟨rfl, HE2.out⟩), Lib.hid (.inl KM2.out), HM, HR⟩
          case measure => simp [intOf]; omega
      have dc : (ce == 0) = false := by simpa using zc
      have HCE := Lib.hid (show ce = cen A i m ∧ 1 ≤ ce ∧ ce ≤ 10000 from by
        rcases HC.out with h | h
        · exact absurd h.1 zc
        · refine ⟨h.1, h.2, ?_⟩
          rw [h.1]
          have := CF.out
          rw [CD.out _ rfl]
          exact (CO.out _ this.2).2)
      clear HC HD zc CF CD
      have OF := Lib.hid (fun k (h : k ≤ m) => offs_bd2 (A := A) (n := n) (c := ce) i HCE.out.2.1 HCE.out.2.2 OKA.out (j := k) (by omega))
      by_cases km : k < m
      · have dk : decide ((k : Int) < (m : Int)) = true := decide_eq_true (by omega)
        go_wp2_with fail
        clear x6
        go_loopw [16] (fun kv wr => ∃ (k : Nat), i ≤ k ∧ k ≤ m ∧ kv = .int .i64 k ∧ Hid (LnM w ls le sp gx s sv (mas A i m) ce (offs A ce i k) wr) ∧ Hid (wr.ownsRow (gx + 1) 3 1 sv (m - i) ((List.range (m - i)).map fun q => Value.int .i64 (gi O (i + q))))) (fun kv _ => m - (intOf kv).toNat)
        case atStart => exact ⟨i, Nat.le_refl _, by omega, rfl, by rw [offs_eq A ce i (Nat.le_refl _)]; exact HM, HR⟩
        case round =>
          clear HM HR
          obtain ⟨k, hk1, hk2, rfl, HM, HR⟩ := hrel
          rename World => wr
          by_cases t1 : k < m
          case pos =>
            obtain ⟨u, x', y', un, hu, ex, ey, cy, fl⟩ := G.out wr HM.out.bl k (by omega)
            cases ex
            cases ey
            obtain ⟨-, a0, a1, a2, a3, a4, a5⟩ := fl
            have k1 : (0 : Int) ≤ (k : Int) := by omega
            have k2 : (k : Int) < (m : Int) := by omega
            have k3 : (k : Int) < (n : Int) := by omega
            have u1 : (0 : Int) ≤ (u : Int) := by omega
            have u2 : (u : Int) < (n : Int) := by omega
            have x6 : wr.cell? ⟨gx, 6, none⟩ = some (.int .i64 ce) := HM.out.xx.cell (k := 6) (by decide)
            have NX := Lib.hid (offs_nx A ce hk1)
            have OB1 := Lib.hid (OF.out k (by omega))
            have OB2' := OF.out (k + 1) (by omega)
            rw [NX.out] at OB2'
            have o1 := OKA.out k (by omega)
            unfold Fl.ok at o1
            have hc := HCE.out
            obtain ⟨tm, htm⟩ : ∃ tm, tm = (A k).mic := ⟨_, rfl⟩
            obtain ⟨tg, htg⟩ : ∃ tg, tg = (A k).gr := ⟨_, rfl⟩
            rw [← htm] at o1 OB2' NX a4
            rw [← htg] at o1 OB2' NX a5
            have e1 : IntKind.i64.wrap (tm - ce) = tm - ce := hwI (by omega) (by omega)
            have e2 : IntKind.i64.wrap (-(tm - ce)) = ce - tm := by rw [hwI (by omega) (by omega)]; omega
            have e3 : IntKind.i64.wrap (ce - tm) = ce - tm := hwI (by omega) (by omega)
            clear htm htg a0 a1 a2 a3
            by_cases zn : tm < ce
            case pos =>
              have dn : decide (tm < ce) = true := decide_eq_true zn
              have dn2 : decide (tm - ce < 0) = true := decide_eq_true (by omega)
              have MXE : max (tm - ce) (ce - tm) = ce - tm := by omega
              rw [MXE, Int.mul_comm] at NX OB2'
              have pb : 0 ≤ (ce - tm) * tg := Int.mul_nonneg (by omega) (by omega)
              have ob1 := OB1.out
              have e4 : IntKind.i64.wrap ((ce - tm) * tg) = (ce - tm) * tg := hwI (by omega) (by omega)
              have e5 : IntKind.i64.wrap (offs A ce i k + (ce - tm) * tg) = offs A ce i k + (ce - tm) * tg := hwI (by omega) (by omega)
              clear zn OB2' o1 pb ob1 hc MXE
              go_upto_region 23 with fail
              go_quiet (fail)
              generalize hwn : wr.drewN nq = wn2 at *
              have HM2 := Lib.hid (show LnM w ls le sp gx s sv (mas A i m) ce (offs A ce i k) wn2 from by rw [← hwn]; exact HM.out.call (below_drewN (Below.refl _ _) _))
              have HR2 := Lib.hid (show wn2.ownsRow (gx + 1) 3 1 sv (m - i) ((List.range (m - i)).map fun q => Value.int .i64 (gi O (i + q))) from by rw [← hwn]; exact HR.out)
              have cy2 : wn2.cell? (y.add k) = some (.int .i64 (u : Int)) := by rw [← hwn]; exact cy
              have g5 : wn2.cell? ⟨(x.add (u * 6)).block, (x.add (u * 6)).off + 5, none⟩ = some (.int .i64 tg) := by rw [← hwn]; exact a5
              clear hwn HM HR cy a5 a4 x6
              have x7 : wn2.cell? ⟨gx, 7, none⟩ = some (.int .i64 (offs A ce i k)) := HM2.out.xx.cell (k := 7) (by decide)
              have f7 := HM2.out.xx.frozen 7
              go_upto_region 26 with fail
              refine wp_region_G (fun w' => w'.cell? ⟨gx, 7, none⟩ = some (.int .i64 (offs A ce i k)) ∧ w'.cell? (y.add k) = some (.int .i64 (u : Int)) ∧ w'.cell? ⟨(x.add (u * 6)).block, (x.add (u * 6)).off + 5, none⟩ = some (.int .i64 tg)) 13 (by kernel_rfl) ?_
              have hS : wn2.drew.cell? ⟨gx, 7, none⟩ = some (.int .i64 (offs A ce i k)) ∧ wn2.drew.cell? (y.add k) = some (.int .i64 (u : Int)) ∧ wn2.drew.cell? ⟨(x.add (u * 6)).block, (x.add (u * 6)).off + 5, none⟩ = some (.int .i64 tg) := ⟨cellDr x7, cellDr cy2, cellDr g5⟩
              refine wpAnyG_take (i := 0) (oi := _) (v := .pointer (some ⟨gx, 7, none⟩)) rfl (by kernel_rfl) (by kernel_rfl) (by kernel_rfl) (by kernel_rfl) (by kernel_rfl) (by decide) (fun _ _ _ h => h) (by rfl) (fun w' hw' => ?_) hS ?_
              · obtain ⟨h1, h2, h3⟩ := hw'
                go_simp
              try simp only [Act.put, List.setIfInBounds_toArray, List.set_cons_zero, List.set_cons_succ]
              refine wpAnyG_take (i := 1) (oi := _) (v := .int .i64 (offs A ce i k)) rfl (by kernel_rfl) (by kernel_rfl) (by kernel_rfl) (by kernel_rfl) (by kernel_rfl) (by decide) (fun _ _ _ h => h) (by rfl) (fun w' hw' => ?_) hS ?_
              · obtain ⟨h1, h2, h3⟩ := hw'
                go_simp
              try simp only [Act.put, List.setIfInBounds_toArray, List.set_cons_zero, List.set_cons_succ]
              refine wpAnyG_take (i := 2) (oi := _) (v := .int .i64 (ce - tm)) rfl (by kernel_rfl) (by kernel_rfl) (by kernel_rfl) (by kernel_rfl) (by kernel_rfl) (by decide) (fun _ _ _ h => h) (by rfl) (fun w' hw' => ?_) hS ?_
              · obtain ⟨h1, h2, h3⟩ := hw'
                go_simp
              try simp only [Act.put, List.setIfInBounds_toArray, List.set_cons_zero, List.set_cons_succ]
              refine wpAnyG_take (i := 3) (oi := _) (v := .slice (some x) n c) rfl (by kernel_rfl) (by kernel_rfl) (by kernel_rfl) (by kernel_rfl) (by kernel_rfl) (by decide) (fun _ _ _ h => h) (by rfl) (fun w' hw' => ?_) hS ?_
              · obtain ⟨h1, h2, h3⟩ := hw'
                go_simp
              try simp only [Act.put, List.setIfInBounds_toArray, List.set_cons_zero, List.set_cons_succ]
              refine wpAnyG_take (i := 4) (oi := _) (v := .slice (some y) n d) rfl (by kernel_rfl) (by kernel_rfl) (by kernel_rfl) (by kernel_rfl) (by kernel_rfl) (by decide) (fun _ _ _ h => h) (by rfl) (fun w' hw' => ?_) hS ?_
              · obtain ⟨h1, h2, h3⟩ := hw'
                go_simp
              try simp only [Act.put, List.setIfInBounds_toArray, List.set_cons_zero, List.set_cons_succ]
              refine wpAnyG_take (i := 5) (oi := _) (v := .int .i64 (k : Int)) rfl (by kernel_rfl) (by kernel_rfl) (by kernel_rfl) (by kernel_rfl) (by kernel_rfl) (by decide) (fun _ _ _ h => h) (by rfl) (fun w' hw' => ?_) hS ?_
              · obtain ⟨h1, h2, h3⟩ := hw'
                go_simp
              try simp only [Act.put, List.setIfInBounds_toArray, List.set_cons_zero, List.set_cons_succ]
              refine wpAnyG_take (i := 6) (oi := _) (v := .pointer (some (y.add k))) rfl (by kernel_rfl) (by kernel_rfl) (by kernel_rfl) (by kernel_rfl) (by kernel_rfl) (by decide) (fun _ _ _ h => h) (by rfl) (fun w' hw' => ?_) hS ?_
              · obtain ⟨h1, h2, h3⟩ := hw'
                go_simp
              try simp only [Act.put, List.setIfInBounds_toArray, List.set_cons_zero, List.set_cons_succ]
              refine wpAnyG_take (i := 7) (oi := _) (v := .int .i64 (u : Int)) rfl (by kernel_rfl) (by kernel_rfl) (by kernel_rfl) (by kernel_rfl) (by kernel_rfl) (by decide) (fun _ _ _ h => h) (by rfl) (fun w' hw' => ?_) hS ?_
              · obtain ⟨h1, h2, h3⟩ := hw'
                go_simp
              try simp only [Act.put, List.setIfInBounds_toArray, List.set_cons_zero, List.set_cons_succ]
              refine wpAnyG_take (i := 8) (oi := _) (v := .pointer (some (x.add (u * 6)))) rfl (by kernel_rfl) (by kernel_rfl) (by kernel_rfl) (by kernel_rfl) (by kernel_rfl) (by decide) (fun _ _ _ h => h) (by rfl) (fun w' hw' => ?_) hS ?_
              · obtain ⟨h1, h2, h3⟩ := hw'
                go_simp
              try simp only [Act.put, List.setIfInBounds_toArray, List.set_cons_zero, List.set_cons_succ]
              refine wpAnyG_take (i := 9) (oi := _) (v := .pointer (some ⟨(x.add (u * 6)).block, (x.add (u * 6)).off + 5, none⟩)) rfl (by kernel_rfl) (by kernel_rfl) (by kernel_rfl) (by kernel_rfl) (by kernel_rfl) (by decide) (fun _ _ _ h => h) (by rfl) (fun w' hw' => ?_) hS ?_
              · obtain ⟨h1, h2, h3⟩ := hw'
                go_simp
              try simp only [Act.put, List.setIfInBounds_toArray, List.set_cons_zero, List.set_cons_succ]
              refine wpAnyG_take (i := 10) (oi := _) (v := .int .i64 tg) rfl (by kernel_rfl) (by kernel_rfl) (by kernel_rfl) (by kernel_rfl) (by kernel_rfl) (by decide) (fun _ _ _ h => h) (by rfl) (fun w' hw' => ?_) hS ?_
              · obtain ⟨h1, h2, h3⟩ := hw'
                go_simp
              try simp only [Act.put, List.setIfInBounds_toArray, List.set_cons_zero, List.set_cons_succ]
              refine wpAnyG_take (i := 11) (oi := _) (v := .int .i64 ((ce - tm) * tg)) rfl (by kernel_rfl) (by kernel_rfl) (by kernel_rfl) (by kernel_rfl) (by kernel_rfl) (by decide) (fun _ _ _ h => h) (by rfl) (fun w' hw' => ?_) hS ?_
              · obtain ⟨h1, h2, h3⟩ := hw'
                go_simp
              try simp only [Act.put, List.setIfInBounds_toArray, List.set_cons_zero, List.set_cons_succ]
              refine wpAnyG_take (i := 12) (oi := _) (v := .int .i64 (offs A ce i k + (ce - tm) * tg)) rfl (by kernel_rfl) (by kernel_rfl) (by kernel_rfl) (by kernel_rfl) (by kernel_rfl) (by decide) (fun _ _ _ h => h) (by rfl) (fun w' hw' => ?_) hS ?_
              · obtain ⟨h1, h2, h3⟩ := hw'
                go_simp
              try simp only [Act.put, List.setIfInBounds_toArray, List.set_cons_zero, List.set_cons_succ]
              refine wpAnyG_one (i := 13) (o := _) (by kernel_rfl) rfl (fun KK hK => ?_)
              go_simp
              refine hK.out _ _ (fun h => absurd h (by decide)) ?_
              try simp only [Act.put, List.setIfInBounds_toArray, List.set_cons_zero, List.set_cons_succ]
              clear hK
              refine wpAnyG_one (i := 14) (o := _) (by kernel_rfl) rfl (fun KK hK => ?_)
              go_simp
              refine hK.out _ _ (fun h => absurd h (by decide)) ?_
              try simp only [Act.put, List.setIfInBounds_toArray, List.set_cons_zero, List.set_cons_succ]
              clear hK
              refine wpAnyG_done (by kernel_rfl) ?_ _
              have HM3 := Lib.hid (show LnM w ls le sp gx s sv (mas A i m) ce (offs A ce i (k + 1)) (wn2.setCell ⟨gx, 7, none⟩ (.int .i64 (offs A ce i k + (ce - tm) * tg))).drew from by rw [NX.out]; exact (HM2.out.set7 _).call (Below.refl _ _).drew)
              have HR3 := Lib.hid (show (wn2.setCell ⟨gx, 7, none⟩ (.int .i64 (offs A ce i k + (ce - tm) * tg))).drew.ownsRow (gx + 1) 3 1 sv (m - i) ((List.range (m - i)).map fun q => Value.int .i64 (gi O (i + q))) from (rowKeep HR2.out (Nat.lt_succ_self _) rfl : (wn2.setCell ⟨gx, 7, none⟩ (.int .i64 (offs A ce i k + (ce - tm) * tg))).ownsRow (gx + 1) 3 1 sv (m - i) ((List.range (m - i)).map fun q => Value.int .i64 (gi O (i + q)))))
              clear HM2 HR2 x7 f7 cy2 g5 hS NX
              go_wp2_with fail
              go_roundw
              case rel => exact ⟨k + 1, by omega, by omega, by go_num, HM3, HR3⟩
              case measure => simp [intOf]; omega
            have dn : decide (tm < ce) = false := decide_eq_false zn
            have dn2 : decide (tm - ce < 0) = false := decide_eq_false (by omega)
            have MXE : max (tm - ce) (ce - tm) = tm - ce := by omega
            rw [MXE, Int.mul_comm] at NX OB2'
            have pb : 0 ≤ (tm - ce) * tg := Int.mul_nonneg (by omega) (by omega)
            have ob1 := OB1.out
            have e4 : IntKind.i64.wrap ((tm - ce) * tg) = (tm - ce) * tg := hwI (by omega) (by omega)
            have e5 : IntKind.i64.wrap (offs A ce i k + (tm - ce) * tg) = offs A ce i k + (tm - ce) * tg := hwI (by omega) (by omega)
            clear zn OB2' o1 pb ob1 hc MXE
            go_upto_region 23 with fail
            go_quiet (fail)
            generalize hwn : wr.drewN nq = wn2 at *
            have HM2 := Lib.hid (show LnM w ls le sp gx s sv (mas A i m) ce (offs A ce i k) wn2 from by rw [← hwn]; exact HM.out.call (below_drewN (Below.refl _ _) _))
            have HR2 := Lib.hid (show wn2.ownsRow (gx + 1) 3 1 sv (m - i) ((List.range (m - i)).map fun q => Value.int .i64 (gi O (i + q))) from by rw [← hwn]; exact HR.out)
            have cy2 : wn2.cell? (y.add k) = some (.int .i64 (u : Int)) := by rw [← hwn]; exact cy
            have g5 : wn2.cell? ⟨(x.add (u * 6)).block, (x.add (u * 6)).off + 5, none⟩ = some (.int .i64 tg) := by rw [← hwn]; exact a5
            clear hwn HM HR cy a5 a4 x6
            have x7 : wn2.cell? ⟨gx, 7, none⟩ = some (.int .i64 (offs A ce i k)) := HM2.out.xx.cell (k := 7) (by decide)
            have f7 := HM2.out.xx.frozen 7
            go_upto_region 26 with fail
            refine wp_region_G (fun w' => w'.cell? ⟨gx, 7, none⟩ = some (.int .i64 (offs A ce i k)) ∧ w'.cell? (y.add k) = some (.int .i64 (u : Int)) ∧ w'.cell? ⟨(x.add (u * 6)).block, (x.add (u * 6)).off + 5, none⟩ = some (.int .i64 tg)) 13 (by kernel_rfl) ?_
            have hS : wn2.drew.cell? ⟨gx, 7, none⟩ = some (.int .i64 (offs A ce i k)) ∧ wn2.drew.cell? (y.add k) = some (.int .i64 (u : Int)) ∧ wn2.drew.cell? ⟨(x.add (u * 6)).block, (x.add (u * 6)).off + 5, none⟩ = some (.int .i64 tg) := ⟨cellDr x7, cellDr cy2, cellDr g5⟩
            refine wpAnyG_take (i := 0) (oi := _) (v := .pointer (some ⟨gx, 7, none⟩)) rfl (by kernel_rfl) (by kernel_rfl) (by kernel_rfl) (by kernel_rfl) (by kernel_rfl) (by decide) (fun _ _ _ h => h) (by rfl) (fun w' hw' => ?_) hS ?_
            · obtain ⟨h1, h2, h3⟩ := hw'
              go_simp
            try simp only [Act.put, List.setIfInBounds_toArray, List.set_cons_zero, List.set_cons_succ]
            refine wpAnyG_take (i := 1) (oi := _) (v := .int .i64 (offs A ce i k)) rfl (by kernel_rfl) (by kernel_rfl) (by kernel_rfl) (by kernel_rfl) (by kernel_rfl) (by decide) (fun _ _ _ h => h) (by rfl) (fun w' hw' => ?_) hS ?_
            · obtain ⟨h1, h2, h3⟩ := hw'
              go_simp
            try simp only [Act.put, List.setIfInBounds_toArray, List.set_cons_zero, List.set_cons_succ]
            refine wpAnyG_take (i := 2) (oi := _) (v := .int .i64 (tm - ce)) rfl (by kernel_rfl) (by kernel_rfl) (by kernel_rfl) (by kernel_rfl) (by kernel_rfl) (by decide) (fun _ _ _ h => h) (by rfl) (fun w' hw' => ?_) hS ?_
            · obtain ⟨h1, h2, h3⟩ := hw'
              go_simp
            try simp only [Act.put, List.setIfInBounds_toArray, List.set_cons_zero, List.set_cons_succ]
            refine wpAnyG_take (i := 3) (oi := _) (v := .slice (some x) n c) rfl (by kernel_rfl) (by kernel_rfl) (by kernel_rfl) (by kernel_rfl) (by kernel_rfl) (by decide) (fun _ _ _ h => h) (by rfl) (fun w' hw' => ?_) hS ?_
            · obtain ⟨h1, h2, h3⟩ := hw'
              go_simp
            try simp only [Act.put, List.setIfInBounds_toArray, List.set_cons_zero, List.set_cons_succ]
            refine wpAnyG_take (i := 4) (oi := _) (v := .slice (some y) n d) rfl (by kernel_rfl) (by kernel_rfl) (by kernel_rfl) (by kernel_rfl) (by kernel_rfl) (by decide) (fun _ _ _ h => h) (by rfl) (fun w' hw' => ?_) hS ?_
            · obtain ⟨h1, h2, h3⟩ := hw'
              go_simp
            try simp only [Act.put, List.setIfInBounds_toArray, List.set_cons_zero, List.set_cons_succ]
            refine wpAnyG_take (i := 5) (oi := _) (v := .int .i64 (k : Int)) rfl (by kernel_rfl) (by kernel_rfl) (by kernel_rfl) (by kernel_rfl) (by kernel_rfl) (by decide) (fun _ _ _ h => h) (by rfl) (fun w' hw' => ?_) hS ?_
            · obtain ⟨h1, h2, h3⟩ := hw'
              go_simp
            try simp only [Act.put, List.setIfInBounds_toArray, List.set_cons_zero, List.set_cons_succ]
            refine wpAnyG_take (i := 6) (oi := _) (v := .pointer (some (y.add k))) rfl (by kernel_rfl) (by kernel_rfl) (by kernel_rfl) (by kernel_rfl) (by kernel_rfl) (by decide) (fun _ _ _ h => h) (by rfl) (fun w' hw' => ?_) hS ?_
            · obtain ⟨h1, h2, h3⟩ := hw'
              go_simp
            try simp only [Act.put, List.setIfInBounds_toArray, List.set_cons_zero, List.set_cons_succ]
            refine wpAnyG_take (i := 7) (oi := _) (v := .int .i64 (u : Int)) rfl (by kernel_rfl) (by kernel_rfl) (by kernel_rfl) (by kernel_rfl) (by kernel_rfl) (by decide) (fun _ _ _ h => h) (by rfl) (fun w' hw' => ?_) hS ?_
            · obtain ⟨h1, h2, h3⟩ := hw'
              go_simp
            try simp only [Act.put, List.setIfInBounds_toArray, List.set_cons_zero, List.set_cons_succ]
            refine wpAnyG_take (i := 8) (oi := _) (v := .pointer (some (x.add (u * 6)))) rfl (by kernel_rfl) (by kernel_rfl) (by kernel_rfl) (by kernel_rfl) (by kernel_rfl) (by decide) (fun _ _ _ h => h) (by rfl) (fun w' hw' => ?_) hS ?_
            · obtain ⟨h1, h2, h3⟩ := hw'
              go_simp
            try simp only [Act.put, List.setIfInBounds_toArray, List.set_cons_zero, List.set_cons_succ]
            refine wpAnyG_take (i := 9) (oi := _) (v := .pointer (some ⟨(x.add (u * 6)).block, (x.add (u * 6)).off + 5, none⟩)) rfl (by kernel_rfl) (by kernel_rfl) (by kernel_rfl) (by kernel_rfl) (by kernel_rfl) (by decide) (fun _ _ _ h => h) (by rfl) (fun w' hw' => ?_) hS ?_
            · obtain ⟨h1, h2, h3⟩ := hw'
              go_simp
            try simp only [Act.put, List.setIfInBounds_toArray, List.set_cons_zero, List.set_cons_succ]
            refine wpAnyG_take (i := 10) (oi := _) (v := .int .i64 tg) rfl (by kernel_rfl) (by kernel_rfl) (by kernel_rfl) (by kernel_rfl) (by kernel_rfl) (by decide) (fun _ _ _ h => h) (by rfl) (fun w' hw' => ?_) hS ?_
            · obtain ⟨h1, h2, h3⟩ := hw'
              go_simp
            try simp only [Act.put, List.setIfInBounds_toArray, List.set_cons_zero, List.set_cons_succ]
            refine wpAnyG_take (i := 11) (oi := _) (v := .int .i64 ((tm - ce) * tg)) rfl (by kernel_rfl) (by kernel_rfl) (by kernel_rfl) (by kernel_rfl) (by kernel_rfl) (by decide) (fun _ _ _ h => h) (by rfl) (fun w' hw' => ?_) hS ?_
            · obtain ⟨h1, h2, h3⟩ := hw'
              go_simp
            try simp only [Act.put, List.setIfInBounds_toArray, List.set_cons_zero, List.set_cons_succ]
            refine wpAnyG_take (i := 12) (oi := _) (v := .int .i64 (offs A ce i k + (tm - ce) * tg)) rfl (by kernel_rfl) (by kernel_rfl) (by kernel_rfl) (by kernel_rfl) (by kernel_rfl) (by decide) (fun _ _ _ h => h) (by rfl) (fun w' hw' => ?_) hS ?_
            · obtain ⟨h1, h2, h3⟩ := hw'
              go_simp
            try simp only [Act.put, List.setIfInBounds_toArray, List.set_cons_zero, List.set_cons_succ]
            refine wpAnyG_one (i := 13) (o := _) (by kernel_rfl) rfl (fun KK hK => ?_)
            go_simp
            refine hK.out _ _ (fun h => absurd h (by decide)) ?_
            try simp only [Act.put, List.setIfInBounds_toArray, List.set_cons_zero, List.set_cons_succ]
            clear hK
            refine wpAnyG_one (i := 14) (o := _) (by kernel_rfl) rfl (fun KK hK => ?_)
            go_simp
            refine hK.out _ _ (fun h => absurd h (by decide)) ?_
            try simp only [Act.put, List.setIfInBounds_toArray, List.set_cons_zero, List.set_cons_succ]
            clear hK
            refine wpAnyG_done (by kernel_rfl) ?_ _
            have HM3 := Lib.hid (show LnM w ls le sp gx s sv (mas A i m) ce (offs A ce i (k + 1)) (wn2.setCell ⟨gx, 7, none⟩ (.int .i64 (offs A ce i k + (tm - ce) * tg))).drew from by rw [NX.out]; exact (HM2.out.set7 _).call (Below.refl _ _).drew)
            have HR3 := Lib.hid (show (wn2.setCell ⟨gx, 7, none⟩ (.int .i64 (offs A ce i k + (tm - ce) * tg))).drew.ownsRow (gx + 1) 3 1 sv (m - i) ((List.range (m - i)).map fun q => Value.int .i64 (gi O (i + q))) from (rowKeep HR2.out (Nat.lt_succ_self _) rfl : (wn2.setCell ⟨gx, 7, none⟩ (.int .i64 (offs A ce i k + (tm - ce) * tg))).ownsRow (gx + 1) 3 1 sv (m - i) ((List.range (m - i)).map fun q => Value.int .i64 (gi O (i + q)))))
            clear HM2 HR2 x7 f7 cy2 g5 hS NX
            go_wp2_with fail
            go_roundw
            case rel => exact ⟨k + 1, by omega, by omega, by go_num, HM3, HR3⟩
            case measure => simp [intOf]; omega
          obtain rfl : k = m := by omega
          obtain ⟨pp, cc, hsv, -, -⟩ := row_nm HR.out
          subst hsv
          have x0 : wr.cell? ⟨gx, 0, none⟩ = some (.int .u8 s.ka) := HM.out.xx.cell (k := 0) (by decide)
          have x1 : wr.cell? ⟨gx, 1, none⟩ = some (.int .u8 s.kb) := HM.out.xx.cell (k := 1) (by decide)
          have x2 : wr.cell? ⟨gx, 2, none⟩ = some (.int .u8 s.kc) := HM.out.xx.cell (k := 2) (by decide)
          have x3 : wr.cell? ⟨gx, 3, none⟩ = some (.int .u8 s.kd) := HM.out.xx.cell (k := 3) (by decide)
          have x4 : wr.cell? ⟨gx, 4, none⟩ = some (.slice pp (k - i) cc) := HM.out.xx.cell (k := 4) (by decide)
          have x5 : wr.cell? ⟨gx, 5, none⟩ = some (.int .i64 (mas A i k)) := HM.out.xx.cell (k := 5) (by decide)
          have x6 : wr.cell? ⟨gx, 6, none⟩ = some (.int .i64 ce) := HM.out.xx.cell (k := 6) (by decide)
          have x7 : wr.cell? ⟨gx, 7, none⟩ = some (.int .i64 (offs A ce i k)) := HM.out.xx.cell (k := 7) (by decide)
          have q0 : wr.cell? ⟨w.heap.size + 1, 0, none⟩ = some (.int .u8 0) := HM.out.rx.cell (k := 0) (by decide)
          have y0 := HM.out.rx.frozen 0
          have q1 : wr.cell? ⟨w.heap.size + 1, 1, none⟩ = some (.int .u8 0) := HM.out.rx.cell (k := 1) (by decide)
          have y1 := HM.out.rx.frozen 1
          have q2 : wr.cell? ⟨w.heap.size + 1, 2, none⟩ = some (.int .u8 0) := HM.out.rx.cell (k := 2) (by decide)
          have y2 := HM.out.rx.frozen 2
          have q3 : wr.cell? ⟨w.heap.size + 1, 3, none⟩ = some (.int .u8 0) := HM.out.rx.cell (k := 3) (by decide)
          have y3 := HM.out.rx.frozen 3
          have q4 : wr.cell? ⟨w.heap.size + 1, 4, none⟩ = some (.slice none 0 0) := HM.out.rx.cell (k := 4) (by decide)
          have y4 := HM.out.rx.frozen 4
          have q5 : wr.cell? ⟨w.heap.size + 1, 5, none⟩ = some (.int .i64 0) := HM.out.rx.cell (k := 5) (by decide)
          have y5 := HM.out.rx.frozen 5
          have q6 : wr.cell? ⟨w.heap.size + 1, 6, none⟩ = some (.int .i64 0) := HM.out.rx.cell (k := 6) (by decide)
          have y6 := HM.out.rx.frozen 6
          have q7 : wr.cell? ⟨w.heap.size + 1, 7, none⟩ = some (.int .i64 0) := HM.out.rx.cell (k := 7) (by decide)
          have y7 := HM.out.rx.frozen 7
          have RZ := Lib.hid (rl_all HM.out.rx s (.slice pp (k - i) cc) (mas A i k) ce (offs A ce i k))
          have FZ := Lib.hid (fm_setL wr (w.heap.size + 1) s (.slice pp (k - i) cc) (mas A i k) ce (offs A ce i k))
          have BZ := Lib.hid (fm_below HM.out.bl FZ.out (by omega) HM.out.rx.lt)
          have RR := Lib.hid (row_nm (rowFm HR.out FZ.out (by have := HM.out.lo; omega)))
          have LO := Lib.hid HM.out.lo
          clear HM HR OF
          go_wp2_with fail
          (try simp only [Exit.inBlock, Exit.then])
          refine bodyPost_ret (results_ln rfl RZ.out rfl) rfl ?_
          obtain ⟨pp', cc', e', r1, r2⟩ := RR.out
          cases e'
          refine .inl ⟨IL.out, ⟨pp, cc, ?_, r1, fun x hx => by have := r2 x hx; have := LO.out; omega⟩, BZ.out⟩
          rw [← HCE.out.1, ← HS.out]
          rfl
      · have dk : decide ((k : Int) < (m : Int)) = false := decide_eq_false (by omega)
        go_wp2_with fail
        clear x6
        go_loopw [16] (fun kv wr => ∃ (k : Nat), i ≤ k ∧ k ≤ m ∧ kv = .int .i64 k ∧ Hid (LnM w ls le sp gx s sv (mas A i m) ce (offs A ce i k) wr) ∧ Hid (wr.ownsRow (gx + 1) 3 1 sv (m - i) ((List.range (m - i)).map fun q => Value.int .i64 (gi O (i + q))))) (fun kv _ => m - (intOf kv).toNat)
        case atStart => exact ⟨i, Nat.le_refl _, by omega, rfl, by rw [offs_eq A ce i (Nat.le_refl _)]; exact HM, HR⟩
        case round =>
          clear HM HR
          obtain ⟨k, hk1, hk2, rfl, HM, HR⟩ := hrel
          rename World => wr
          by_cases t1 : k < m
          case pos =>
            obtain ⟨u, x', y', un, hu, ex, ey, cy, fl⟩ := G.out wr HM.out.bl k (by omega)
            cases ex
            cases ey
            obtain ⟨-, a0, a1, a2, a3, a4, a5⟩ := fl
            have k1 : (0 : Int) ≤ (k : Int) := by omega
            have k2 : (k : Int) < (m : Int) := by omega
            have k3 : (k : Int) < (n : Int) := by omega
            have u1 : (0 : Int) ≤ (u : Int) := by omega
            have u2 : (u : Int) < (n : Int) := by omega
            have x6 : wr.cell? ⟨gx, 6, none⟩ = some (.int .i64 ce) := HM.out.xx.cell (k := 6) (by decide)
            have NX := Lib.hid (offs_nx A ce hk1)
            have OB1 := Lib.hid (OF.out k (by omega))
            have OB2' := OF.out (k + 1) (by omega)
            rw [NX.out] at OB2'
            have o1 := OKA.out k (by omega)
            unfold Fl.ok at o1
            have hc := HCE.out
            obtain ⟨tm, htm⟩ : ∃ tm, tm = (A k).mic := ⟨_, rfl⟩
            obtain ⟨tg, htg⟩ : ∃ tg, tg = (A k).gr := ⟨_, rfl⟩
            rw [← htm] at o1 OB2' NX a4
            rw [← htg] at o1 OB2' NX a5
            have e1 : IntKind.i64.wrap (tm - ce) = tm - ce := hwI (by omega) (by omega)
            have e2 : IntKind.i64.wrap (-(tm - ce)) = ce - tm := by rw [hwI (by omega) (by omega)]; omega
            have e3 : IntKind.i64.wrap (ce - tm) = ce - tm := hwI (by omega) (by omega)
            clear htm htg a0 a1 a2 a3
            by_cases zn : tm < ce
            case pos =>
              have dn : decide (tm < ce) = true := decide_eq_true zn
              have dn2 : decide (tm - ce < 0) = true := decide_eq_true (by omega)
              have MXE : max (tm - ce) (ce - tm) = ce - tm := by omega
              rw [MXE, Int.mul_comm] at NX OB2'
              have pb : 0 ≤ (ce - tm) * tg := Int.mul_nonneg (by omega) (by omega)
              have ob1 := OB1.out
              have e4 : IntKind.i64.wrap ((ce - tm) * tg) = (ce - tm) * tg := hwI (by omega) (by omega)
              have e5 : IntKind.i64.wrap (offs A ce i k + (ce - tm) * tg) = offs A ce i k + (ce - tm) * tg := hwI (by omega) (by omega)
              clear zn OB2' o1 pb ob1 hc MXE
              go_upto_region 23 with fail
              go_quiet (fail)
              generalize hwn : wr.drewN nq = wn2 at *
              have HM2 := Lib.hid (show LnM w ls le sp gx s sv (mas A i m) ce (offs A ce i k) wn2 from by rw [← hwn]; exact HM.out.call (below_drewN (Below.refl _ _) _))
              have HR2 := Lib.hid (show wn2.ownsRow (gx + 1) 3 1 sv (m - i) ((List.range (m - i)).map fun q => Value.int .i64 (gi O (i + q))) from by rw [← hwn]; exact HR.out)
              have cy2 : wn2.cell? (y.add k) = some (.int .i64 (u : Int)) := by rw [← hwn]; exact cy
              have g5 : wn2.cell? ⟨(x.add (u * 6)).block, (x.add (u * 6)).off + 5, none⟩ = some (.int .i64 tg) := by rw [← hwn]; exact a5
              clear hwn HM HR cy a5 a4 x6
              have x7 : wn2.cell? ⟨gx, 7, none⟩ = some (.int .i64 (offs A ce i k)) := HM2.out.xx.cell (k := 7) (by decide)
              have f7 := HM2.out.xx.frozen 7
              go_upto_region 26 with fail
              refine wp_region_G (fun w' => w'.cell? ⟨gx, 7, none⟩ = some (.int .i64 (offs A ce i k)) ∧ w'.cell? (y.add k) = some (.int .i64 (u : Int)) ∧ w'.cell? ⟨(x.add (u * 6)).block, (x.add (u * 6)).off + 5, none⟩ = some (.int .i64 tg)) 13 (by kernel_rfl) ?_
              have hS : wn2.drew.cell? ⟨gx, 7, none⟩ = some (.int .i64 (offs A ce i k)) ∧ wn2.drew.cell? (y.add k) = some (.int .i64 (u : Int)) ∧ wn2.drew.cell? ⟨(x.add (u * 6)).block, (x.add (u * 6)).off + 5, none⟩ = some (.int .i64 tg) := ⟨cellDr x7, cellDr cy2, cellDr g5⟩
              refine wpAnyG_take (i := 0) (oi := _) (v := .pointer (some ⟨gx, 7, none⟩)) rfl (by kernel_rfl) (by kernel_rfl) (by kernel_rfl) (by kernel_rfl) (by kernel_rfl) (by decide) (fun _ _ _ h => h) (by rfl) (fun w' hw' => ?_) hS ?_
              · obtain ⟨h1, h2, h3⟩ := hw'
                go_simp
              try simp only [Act.put, List.setIfInBounds_toArray, List.set_cons_zero, List.set_cons_succ]
              refine wpAnyG_take (i := 1) (oi := _) (v := .int .i64 (offs A ce i k)) rfl (by kernel_rfl) (by kernel_rfl) (by kernel_rfl) (by kernel_rfl) (by kernel_rfl) (by decide) (fun _ _ _ h => h) (by rfl) (fun w' hw' => ?_) hS ?_
              · obtain ⟨h1, h2, h3⟩ := hw'
                go_simp
              try simp only [Act.put, List.setIfInBounds_toArray, List.set_cons_zero, List.set_cons_succ]
              refine wpAnyG_take (i := 2) (oi := _) (v := .int .i64 (ce - tm)) rfl (by kernel_rfl) (by kernel_rfl) (by kernel_rfl) (by kernel_rfl) (by kernel_rfl) (by decide) (fun _ _ _ h => h) (by rfl) (fun w' hw' => ?_) hS ?_
              · obtain ⟨h1, h2, h3⟩ := hw'
                go_simp
              try simp only [Act.put, List.setIfInBounds_toArray, List.set_cons_zero, List.set_cons_succ]
              refine wpAnyG_take (i := 3) (oi := _) (v := .slice (some x) n c) rfl (by kernel_rfl) (by kernel_rfl) (by kernel_rfl) (by kernel_rfl) (by kernel_rfl) (by decide) (fun _ _ _ h => h) (by rfl) (fun w' hw' => ?_) hS ?_
              · obtain ⟨h1, h2, h3⟩ := hw'
                go_simp
              try simp only [Act.put, List.setIfInBounds_toArray, List.set_cons_zero, List.set_cons_succ]
              refine wpAnyG_take (i := 4) (oi := _) (v := .slice (some y) n d) rfl (by kernel_rfl) (by kernel_rfl) (by kernel_rfl) (by kernel_rfl) (by kernel_rfl) (by decide) (fun _ _ _ h => h) (by rfl) (fun w' hw' => ?_) hS ?_
              · obtain ⟨h1, h2, h3⟩ := hw'
                go_simp
              try simp only [Act.put, List.setIfInBounds_toArray, List.set_cons_zero, List.set_cons_succ]
              refine wpAnyG_take (i := 5) (oi := _) (v := .int .i64 (k : Int)) rfl (by kernel_rfl) (by kernel_rfl) (by kernel_rfl) (by kernel_rfl) (by kernel_rfl) (by decide) (fun _ _ _ h => h) (by rfl) (fun w' hw' => ?_) hS ?_
              · obtain ⟨h1, h2, h3⟩ := hw'
                go_simp
              try simp only [Act.put, List.setIfInBounds_toArray, List.set_cons_zero, List.set_cons_succ]
              refine wpAnyG_take (i := 6) (oi := _) (v := .pointer (some (y.add k))) rfl (by kernel_rfl) (by kernel_rfl) (by kernel_rfl) (by kernel_rfl) (by kernel_rfl) (by decide) (fun _ _ _ h => h) (by rfl) (fun w' hw' => ?_) hS ?_
              · obtain ⟨h1, h2, h3⟩ := hw'
                go_simp
              try simp only [Act.put, List.setIfInBounds_toArray, List.set_cons_zero, List.set_cons_succ]
              refine wpAnyG_take (i := 7) (oi := _) (v := .int .i64 (u : Int)) rfl (by kernel_rfl) (by kernel_rfl) (by kernel_rfl) (by kernel_rfl) (by kernel_rfl) (by decide) (fun _ _ _ h => h) (by rfl) (fun w' hw' => ?_) hS ?_
              · obtain ⟨h1, h2, h3⟩ := hw'
                go_simp
              try simp only [Act.put, List.setIfInBounds_toArray, List.set_cons_zero, List.set_cons_succ]
              refine wpAnyG_take (i := 8) (oi := _) (v := .pointer (some (x.add (u * 6)))) rfl (by kernel_rfl) (by kernel_rfl) (by kernel_rfl) (by kernel_rfl) (by kernel_rfl) (by decide) (fun _ _ _ h => h) (by rfl) (fun w' hw' => ?_) hS ?_
              · obtain ⟨h1, h2, h3⟩ := hw'
                go_simp
              try simp only [Act.put, List.setIfInBounds_toArray, List.set_cons_zero, List.set_cons_succ]
              refine wpAnyG_take (i := 9) (oi := _) (v := .pointer (some ⟨(x.add (u * 6)).block, (x.add (u * 6)).off + 5, none⟩)) rfl (by kernel_rfl) (by kernel_rfl) (by kernel_rfl) (by kernel_rfl) (by kernel_rfl) (by decide) (fun _ _ _ h => h) (by rfl) (fun w' hw' => ?_) hS ?_
              · obtain ⟨h1, h2, h3⟩ := hw'
                go_simp
              try simp only [Act.put, List.setIfInBounds_toArray, List.set_cons_zero, List.set_cons_succ]
              refine wpAnyG_take (i := 10) (oi := _) (v := .int .i64 tg) rfl (by kernel_rfl) (by kernel_rfl) (by kernel_rfl) (by kernel_rfl) (by kernel_rfl) (by decide) (fun _ _ _ h => h) (by rfl) (fun w' hw' => ?_) hS ?_
              · obtain ⟨h1, h2, h3⟩ := hw'
                go_simp
              try simp only [Act.put, List.setIfInBounds_toArray, List.set_cons_zero, List.set_cons_succ]
              refine wpAnyG_take (i := 11) (oi := _) (v := .int .i64 ((ce - tm) * tg)) rfl (by kernel_rfl) (by kernel_rfl) (by kernel_rfl) (by kernel_rfl) (by kernel_rfl) (by decide) (fun _ _ _ h => h) (by rfl) (fun w' hw' => ?_) hS ?_
              · obtain ⟨h1, h2, h3⟩ := hw'
                go_simp
              try simp only [Act.put, List.setIfInBounds_toArray, List.set_cons_zero, List.set_cons_succ]
              refine wpAnyG_take (i := 12) (oi := _) (v := .int .i64 (offs A ce i k + (ce - tm) * tg)) rfl (by kernel_rfl) (by kernel_rfl) (by kernel_rfl) (by kernel_rfl) (by kernel_rfl) (by decide) (fun _ _ _ h => h) (by rfl) (fun w' hw' => ?_) hS ?_
              · obtain ⟨h1, h2, h3⟩ := hw'
                go_simp
              try simp only [Act.put, List.setIfInBounds_toArray, List.set_cons_zero, List.set_cons_succ]
              refine wpAnyG_one (i := 13) (o := _) (by kernel_rfl) rfl (fun KK hK => ?_)
              go_simp
              refine hK.out _ _ (fun h => absurd h (by decide)) ?_
              try simp only [Act.put, List.setIfInBounds_toArray, List.set_cons_zero, List.set_cons_succ]
              clear hK
              refine wpAnyG_one (i := 14) (o := _) (by kernel_rfl) rfl (fun KK hK => ?_)
              go_simp
              refine hK.out _ _ (fun h => absurd h (by decide)) ?_
              try simp only [Act.put, List.setIfInBounds_toArray, List.set_cons_zero, List.set_cons_succ]
              clear hK
              refine wpAnyG_done (by kernel_rfl) ?_ _
              have HM3 := Lib.hid (show LnM w ls le sp gx s sv (mas A i m) ce (offs A ce i (k + 1)) (wn2.setCell ⟨gx, 7, none⟩ (.int .i64 (offs A ce i k + (ce - tm) * tg))).drew from by rw [NX.out]; exact (HM2.out.set7 _).call (Below.refl _ _).drew)
              have HR3 := Lib.hid (show (wn2.setCell ⟨gx, 7, none⟩ (.int .i64 (offs A ce i k + (ce - tm) * tg))).drew.ownsRow (gx + 1) 3 1 sv (m - i) ((List.range (m - i)).map fun q => Value.int .i64 (gi O (i + q))) from (rowKeep HR2.out (Nat.lt_succ_self _) rfl : (wn2.setCell ⟨gx, 7, none⟩ (.int .i64 (offs A ce i k + (ce - tm) * tg))).ownsRow (gx + 1) 3 1 sv (m - i) ((List.range (m - i)).map fun q => Value.int .i64 (gi O (i + q)))))
              clear HM2 HR2 x7 f7 cy2 g5 hS NX
              go_wp2_with fail
              go_roundw
              case rel => exact ⟨k + 1, by omega, by omega, by go_num, HM3, HR3⟩
              case measure => simp [intOf]; omega
            have dn : decide (tm < ce) = false := decide_eq_false zn
            have dn2 : decide (tm - ce < 0) = false := decide_eq_false (by omega)
            have MXE : max (tm - ce) (ce - tm) = tm - ce := by omega
            rw [MXE, Int.mul_comm] at NX OB2'
            have pb : 0 ≤ (tm - ce) * tg := Int.mul_nonneg (by omega) (by omega)
            have ob1 := OB1.out
            have e4 : IntKind.i64.wrap ((tm - ce) * tg) = (tm - ce) * tg := hwI (by omega) (by omega)
            have e5 : IntKind.i64.wrap (offs A ce i k + (tm - ce) * tg) = offs A ce i k + (tm - ce) * tg := hwI (by omega) (by omega)
            clear zn OB2' o1 pb ob1 hc MXE
            go_upto_region 23 with fail
            go_quiet (fail)
            generalize hwn : wr.drewN nq = wn2 at *
            have HM2 := Lib.hid (show LnM w ls le sp gx s sv (mas A i m) ce (offs A ce i k) wn2 from by rw [← hwn]; exact HM.out.call (below_drewN (Below.refl _ _) _))
            have HR2 := Lib.hid (show wn2.ownsRow (gx + 1) 3 1 sv (m - i) ((List.range (m - i)).map fun q => Value.int .i64 (gi O (i + q))) from by rw [← hwn]; exact HR.out)
            have cy2 : wn2.cell? (y.add k) = some (.int .i64 (u : Int)) := by rw [← hwn]; exact cy
            have g5 : wn2.cell? ⟨(x.add (u * 6)).block, (x.add (u * 6)).off + 5, none⟩ = some (.int .i64 tg) := by rw [← hwn]; exact a5
            clear hwn HM HR cy a5 a4 x6
            have x7 : wn2.cell? ⟨gx, 7, none⟩ = some (.int .i64 (offs A ce i k)) := HM2.out.xx.cell (k := 7) (by decide)
            have f7 := HM2.out.xx.frozen 7
            go_upto_region 26 with fail
            refine wp_region_G (fun w' => w'.cell? ⟨gx, 7, none⟩ = some (.int .i64 (offs A ce i k)) ∧ w'.cell? (y.add k) = some (.int .i64 (u : Int)) ∧ w'.cell? ⟨(x.add (u * 6)).block, (x.add (u * 6)).off + 5, none⟩ = some (.int .i64 tg)) 13 (by kernel_rfl) ?_
            have hS : wn2.drew.cell? ⟨gx, 7, none⟩ = some (.int .i64 (offs A ce i k)) ∧ wn2.drew.cell? (y.add k) = some (.int .i64 (u : Int)) ∧ wn2.drew.cell? ⟨(x.add (u * 6)).block, (x.add (u * 6)).off + 5, none⟩ = some (.int .i64 tg) := ⟨cellDr x7, cellDr cy2, cellDr g5⟩
            refine wpAnyG_take (i := 0) (oi := _) (v := .pointer (some ⟨gx, 7, none⟩)) rfl (by kernel_rfl) (by kernel_rfl) (by kernel_rfl) (by kernel_rfl) (by kernel_rfl) (by decide) (fun _ _ _ h => h) (by rfl) (fun w' hw' => ?_) hS ?_
            · obtain ⟨h1, h2, h3⟩ := hw'
              go_simp
            try simp only [Act.put, List.setIfInBounds_toArray, List.set_cons_zero, List.set_cons_succ]
            refine wpAnyG_take (i := 1) (oi := _) (v := .int .i64 (offs A ce i k)) rfl (by kernel_rfl) (by kernel_rfl) (by kernel_rfl) (by kernel_rfl) (by kernel_rfl) (by decide) (fun _ _ _ h => h) (by rfl) (fun w' hw' => ?_) hS ?_
            · obtain ⟨h1, h2, h3⟩ := hw'
              go_simp
            try simp only [Act.put, List.setIfInBounds_toArray, List.set_cons_zero, List.set_cons_succ]
            refine wpAnyG_take (i := 2) (oi := _) (v := .int .i64 (tm - ce)) rfl (by kernel_rfl) (by kernel_rfl) (by kernel_rfl) (by kernel_rfl) (by kernel_rfl) (by decide) (fun _ _ _ h => h) (by rfl) (fun w' hw' => ?_) hS ?_
            · obtain ⟨h1, h2, h3⟩ := hw'
              go_simp
            try simp only [Act.put, List.setIfInBounds_toArray, List.set_cons_zero, List.set_cons_succ]
            refine wpAnyG_take (i := 3) (oi := _) (v := .slice (some x) n c) rfl (by kernel_rfl) (by kernel_rfl) (by kernel_rfl) (by kernel_rfl) (by kernel_rfl) (by decide) (fun _ _ _ h => h) (by rfl) (fun w' hw' => ?_) hS ?_
            · obtain ⟨h1, h2, h3⟩ := hw'
              go_simp
            try simp only [Act.put, List.setIfInBounds_toArray, List.set_cons_zero, List.set_cons_succ]
            refine wpAnyG_take (i := 4) (oi := _) (v := .slice (some y) n d) rfl (by kernel_rfl) (by kernel_rfl) (by kernel_rfl) (by kernel_rfl) (by kernel_rfl) (by decide) (fun _ _ _ h => h) (by rfl) (fun w' hw' => ?_) hS ?_
            · obtain ⟨h1, h2, h3⟩ := hw'
              go_simp
            try simp only [Act.put, List.setIfInBounds_toArray, List.set_cons_zero, List.set_cons_succ]
            refine wpAnyG_take (i := 5) (oi := _) (v := .int .i64 (k : Int)) rfl (by kernel_rfl) (by kernel_rfl) (by kernel_rfl) (by kernel_rfl) (by kernel_rfl) (by decide) (fun _ _ _ h => h) (by rfl) (fun w' hw' => ?_) hS ?_
            · obtain ⟨h1, h2, h3⟩ := hw'
              go_simp
            try simp only [Act.put, List.setIfInBounds_toArray, List.set_cons_zero, List.set_cons_succ]
            refine wpAnyG_take (i := 6) (oi := _) (v := .pointer (some (y.add k))) rfl (by kernel_rfl) (by kernel_rfl) (by kernel_rfl) (by kernel_rfl) (by kernel_rfl) (by decide) (fun _ _ _ h => h) (by rfl) (fun w' hw' => ?_) hS ?_
            · obtain ⟨h1, h2, h3⟩ := hw'
              go_simp
            try simp only [Act.put, List.setIfInBounds_toArray, List.set_cons_zero, List.set_cons_succ]
            refine wpAnyG_take (i := 7) (oi := _) (v := .int .i64 (u : Int)) rfl (by kernel_rfl) (by kernel_rfl) (by kernel_rfl) (by kernel_rfl) (by kernel_rfl) (by decide) (fun _ _ _ h => h) (by rfl) (fun w' hw' => ?_) hS ?_
            · obtain ⟨h1, h2, h3⟩ := hw'
              go_simp
            try simp only [Act.put, List.setIfInBounds_toArray, List.set_cons_zero, List.set_cons_succ]
            refine wpAnyG_take (i := 8) (oi := _) (v := .pointer (some (x.add (u * 6)))) rfl (by kernel_rfl) (by kernel_rfl) (by kernel_rfl) (by kernel_rfl) (by kernel_rfl) (by decide) (fun _ _ _ h => h) (by rfl) (fun w' hw' => ?_) hS ?_
            · obtain ⟨h1, h2, h3⟩ := hw'
              go_simp
            try simp only [Act.put, List.setIfInBounds_toArray, List.set_cons_zero, List.set_cons_succ]
            refine wpAnyG_take (i := 9) (oi := _) (v := .pointer (some ⟨(x.add (u * 6)).block, (x.add (u * 6)).off + 5, none⟩)) rfl (by kernel_rfl) (by kernel_rfl) (by kernel_rfl) (by kernel_rfl) (by kernel_rfl) (by decide) (fun _ _ _ h => h) (by rfl) (fun w' hw' => ?_) hS ?_
            · obtain ⟨h1, h2, h3⟩ := hw'
              go_simp
            try simp only [Act.put, List.setIfInBounds_toArray, List.set_cons_zero, List.set_cons_succ]
            refine wpAnyG_take (i := 10) (oi := _) (v := .int .i64 tg) rfl (by kernel_rfl) (by kernel_rfl) (by kernel_rfl) (by kernel_rfl) (by kernel_rfl) (by decide) (fun _ _ _ h => h) (by rfl) (fun w' hw' => ?_) hS ?_
            · obtain ⟨h1, h2, h3⟩ := hw'
              go_simp
            try simp only [Act.put, List.setIfInBounds_toArray, List.set_cons_zero, List.set_cons_succ]
            refine wpAnyG_take (i := 11) (oi := _) (v := .int .i64 ((tm - ce) * tg)) rfl (by kernel_rfl) (by kernel_rfl) (by kernel_rfl) (by kernel_rfl) (by kernel_rfl) (by decide) (fun _ _ _ h => h) (by rfl) (fun w' hw' => ?_) hS ?_
            · obtain ⟨h1, h2, h3⟩ := hw'
              go_simp
            try simp only [Act.put, List.setIfInBounds_toArray, List.set_cons_zero, List.set_cons_succ]
            refine wpAnyG_take (i := 12) (oi := _) (v := .int .i64 (offs A ce i k + (tm - ce) * tg)) rfl (by kernel_rfl) (by kernel_rfl) (by kernel_rfl) (by kernel_rfl) (by kernel_rfl) (by decide) (fun _ _ _ h => h) (by rfl) (fun w' hw' => ?_) hS ?_
            · obtain ⟨h1, h2, h3⟩ := hw'
              go_simp
            try simp only [Act.put, List.setIfInBounds_toArray, List.set_cons_zero, List.set_cons_succ]
            refine wpAnyG_one (i := 13) (o := _) (by kernel_rfl) rfl (fun KK hK => ?_)
            go_simp
            refine hK.out _ _ (fun h => absurd h (by decide)) ?_
            try simp only [Act.put, List.setIfInBounds_toArray, List.set_cons_zero, List.set_cons_succ]
            clear hK
            refine wpAnyG_one (i := 14) (o := _) (by kernel_rfl) rfl (fun KK hK => ?_)
            go_simp
            refine hK.out _ _ (fun h => absurd h (by decide)) ?_
            try simp only [Act.put, List.setIfInBounds_toArray, List.set_cons_zero, List.set_cons_succ]
            clear hK
            refine wpAnyG_done (by kernel_rfl) ?_ _
            have HM3 := Lib.hid (show LnM w ls le sp gx s sv (mas A i m) ce (offs A ce i (k + 1)) (wn2.setCell ⟨gx, 7, none⟩ (.int .i64 (offs A ce i k + (tm - ce) * tg))).drew from by rw [NX.out]; exact (HM2.out.set7 _).call (Below.refl _ _).drew)
            have HR3 := Lib.hid (show (wn2.setCell ⟨gx, 7, none⟩ (.int .i64 (offs A ce i k + (tm - ce) * tg))).drew.ownsRow (gx + 1) 3 1 sv (m - i) ((List.range (m - i)).map fun q => Value.int .i64 (gi O (i + q))) from (rowKeep HR2.out (Nat.lt_succ_self _) rfl : (wn2.setCell ⟨gx, 7, none⟩ (.int .i64 (offs A ce i k + (tm - ce) * tg))).ownsRow (gx + 1) 3 1 sv (m - i) ((List.range (m - i)).map fun q => Value.int .i64 (gi O (i + q)))))
            clear HM2 HR2 x7 f7 cy2 g5 hS NX
            go_wp2_with fail
            go_roundw
            case rel => exact ⟨k + 1, by omega, by omega, by go_num, HM3, HR3⟩
            case measure => simp [intOf]; omega
          obtain rfl : k = m := by omega
          obtain ⟨pp, cc, hsv, -, -⟩ := row_nm HR.out
          subst hsv
          have x0 : wr.cell? ⟨gx, 0, none⟩ = some (.int .u8 s.ka) := HM.out.xx.cell (k := 0) (by decide)
          have x1 : wr.cell? ⟨gx, 1, none⟩ = some (.int .u8 s.kb) := HM.out.xx.cell (k := 1) (by decide)
          have x2 : wr.cell? ⟨gx, 2, none⟩ = some (.int .u8 s.kc) := HM.out.xx.cell (k := 2) (by decide)
          have x3 : wr.cell? ⟨gx, 3, none⟩ = some (.int .u8 s.kd) := HM.out.xx.cell (k := 3) (by decide)
          have x4 : wr.cell? ⟨gx, 4, none⟩ = some (.slice pp (k - i) cc) := HM.out.xx.cell (k := 4) (by decide)
          have x5 : wr.cell? ⟨gx, 5, none⟩ = some (.int .i64 (mas A i k)) := HM.out.xx.cell (k := 5) (by decide)
          have x6 : wr.cell? ⟨gx, 6, none⟩ = some (.int .i64 ce) := HM.out.xx.cell (k := 6) (by decide)
          have x7 : wr.cell? ⟨gx, 7, none⟩ = some (.int .i64 (offs A ce i k)) := HM.out.xx.cell (k := 7) (by decide)
          have q0 : wr.cell? ⟨w.heap.size + 1, 0, none⟩ = some (.int .u8 0) := HM.out.rx.cell (k := 0) (by decide)
          have y0 := HM.out.rx.frozen 0
          have q1 : wr.cell? ⟨w.heap.size + 1, 1, none⟩ = some (.int .u8 0) := HM.out.rx.cell (k := 1) (by decide)
          have y1 := HM.out.rx.frozen 1
          have q2 : wr.cell? ⟨w.heap.size + 1, 2, none⟩ = some (.int .u8 0) := HM.out.rx.cell (k := 2) (by decide)
          have y2 := HM.out.rx.frozen 2
          have q3 : wr.cell? ⟨w.heap.size + 1, 3, none⟩ = some (.int .u8 0) := HM.out.rx.cell (k := 3) (by decide)
          have y3 := HM.out.rx.frozen 3
          have q4 : wr.cell? ⟨w.heap.size + 1, 4, none⟩ = some (.slice none 0 0) := HM.out.rx.cell (k := 4) (by decide)
          have y4 := HM.out.rx.frozen 4
          have q5 : wr.cell? ⟨w.heap.size + 1, 5, none⟩ = some (.int .i64 0) := HM.out.rx.cell (k := 5) (by decide)
          have y5 := HM.out.rx.frozen 5
          have q6 : wr.cell? ⟨w.heap.size + 1, 6, none⟩ = some (.int .i64 0) := HM.out.rx.cell (k := 6) (by decide)
          have y6 := HM.out.rx.frozen 6
          have q7 : wr.cell? ⟨w.heap.size + 1, 7, none⟩ = some (.int .i64 0) := HM.out.rx.cell (k := 7) (by decide)
          have y7 := HM.out.rx.frozen 7
          have RZ := Lib.hid (rl_all HM.out.rx s (.slice pp (k - i) cc) (mas A i k) ce (offs A ce i k))
          have FZ := Lib.hid (fm_setL wr (w.heap.size + 1) s (.slice pp (k - i) cc) (mas A i k) ce (offs A ce i k))
          have BZ := Lib.hid (fm_below HM.out.bl FZ.out (by omega) HM.out.rx.lt)
          have RR := Lib.hid (row_nm (rowFm HR.out FZ.out (by have := HM.out.lo; omega)))
          have LO := Lib.hid HM.out.lo
          clear HM HR OF
          go_wp2_with fail
          (try simp only [Exit.inBlock, Exit.then])
          refine bodyPost_ret (results_ln rfl RZ.out rfl) rfl ?_
          obtain ⟨pp', cc', e', r1, r2⟩ := RR.out
          cases e'
          refine .inl ⟨IL.out, ⟨pp, cc, ?_, r1, fun x hx => by have := r2 x hx; have := LO.out; omega⟩, BZ.out⟩
          rw [← HCE.out.1, ← HS.out]
          rfl
end Go.Proofs.Ytmdhmpfagekonaa
