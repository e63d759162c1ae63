/- Classing's lines: sorted. -/
import Derived.Test.YtmdhmpfagekonaaLD
import Derived.Test.YtmdhmpfagekonaaLP
import Derived.Test.YtmdhmpfagekonaaLI
namespace Go.Proofs.Ytmdhmpfagekonaa
open Go.RowKit Go.Proofs.Ytmdhmpfagekonaa.Ct Go.Proofs.Ytmdhmpfagekonaa.Ce Go.Proofs.Ytmdhmpfagekonaa.Stb
set_option linter.unusedVariables false
set_option linter.unusedSimpArgs false

theorem sort_ord {n : Nat} {g : Nat → Int} (h : Pm 0 n (fun k => (k : Int)) g) : IsO n ((List.range n).map g) := by
  have gm : ∀ k, k < n → gi ((List.range n).map g) k = g k := fun k h => by simp [gi, h]
  refine ⟨by simp, fun k hk => ?_, fun i j ij jn => ?_⟩
  · rw [gm k hk]
    obtain ⟨j, j1, j2, e⟩ := h.src (Nat.zero_le k) hk
    rw [e]; omega
  · rw [gm i (by omega), gm j jn]
    intro e
    have := h.inj (fun i j e => by omega) i j e
    omega
/-- What sorted answers. -/
def SoQ (F : Nat → Fl) (n : Nat) (ls le sp : Int) (w : World) (e : Ending) (w' : World) : Prop := ∃ (gp gf gc : Nat), e = .returned (clV ls le sp (.slice (some ⟨gp, 0, none⟩) n n) (.slice (some ⟨gf, 0, none⟩) n n) (.slice (some ⟨gc, 0, none⟩) n n)) ∧ NmR w' (some ⟨gp, 0, none⟩) n (gi (ordK (fun k => (F k).key) n)) ∧ FlR w' (some ⟨gf, 0, none⟩) n (inO F n) ∧ CoR w' (some ⟨gc, 0, none⟩) n (n + 1) (cMat (inO F n) le sp) ∧ Below w.heap.size w w' ∧ w.heap.size ≤ gp
def sqS (k : Nat) (P : Nat → Int) : Nat → Int := fun j => if j < k then (j : Int) else P j
theorem sqS_up (k : Nat) : (fun j => if j = k then (k : Int) else (fun j => if j < k then (j : Int) else 0) j) = fun j => if j < k + 1 then (j : Int) else 0 := by
  funext j
  by_cases e : j = k
  · subst e; simp
  · rw [if_neg e]
    dsimp only
    by_cases l : j < k
    · rw [if_pos l, if_pos (by omega)]
    · rw [if_neg l, if_neg (by omega)]

theorem clSize : (Try.prog.info? 67).map (·.size) = some (#[Value.int .i64 0, .int .i64 0, .int .i64 0, .int .i64 0, .int .i64 0, .int .i64 0] : Array Value).size := by kernel_rfl
theorem cell_al {W : World} {a : Addr} {x : Value} (o : Obj) (h : W.cell? a = some x) : (W.alloc o).cell? a = some x := cellGr ((Below.refl _ _).alloc (Nat.le_refl _) o) h
theorem SW.ext' {W : World} {g n : Nat} (s : SW g n n W W (fun k => if k < n then (k : Int) else 0)) : SW g n n W W (fun k => (k : Int)) := by
  refine ⟨?_, s.sz, s.bl, s.os, s.tp, s.ou⟩
  have e : ((List.range n).map fun k => Value.int .i64 (if k < n then (k : Int) else 0)) = (List.range n).map fun k => Value.int .i64 ((k : Nat) : Int) := List.map_congr_left fun k hk => by rw [if_pos (List.mem_range.1 hk)]
  rw [← e]; exact s.row
set_option maxRecDepth 100000 in
set_option maxHeartbeats 16000000 in
theorem sorted_any (p : Option Addr) (c n : Nat) (F : Nat → Fl) (ls le sp : Int) (w : World) (r : FlR w p n F) (ln : n ≤ 140) (ok : ∀ k, k < n → (F k).ok) (kok : ∀ k, k < n → (F k).kok) (hp : ∀ x, p = some x → x.block < w.heap.size) :
    Calls Try.prog 33 #[.slice p n c, .agg #[.int .i64 ls, .int .i64 le, .int .i64 sp]] w (SoQ F n ls le sp w) := by
  obtain ⟨i0, hi, hz0, hz1, hz2⟩ := info_parts intInfo
  obtain ⟨i1, hi1, hy0, hy1, hy2⟩ := info_parts flInfo
  obtain ⟨i2, hi2, hx0, hx1, hx2⟩ := info_parts rowInfo
  have R := Lib.hid r
  have OK := Lib.hid ok
  have KOK := Lib.hid kok
  have HP := Lib.hid hp
  clear r ok kok hp
  have B3 := Lib.hid (show ∃ w3, w3 = ((w.alloc (Obj.cells #[.slice p n c] 22)).alloc (Obj.cells #[.int .i64 ls, .int .i64 le, .int .i64 sp] 24)).alloc (Obj.cells #[.int .i64 0, .int .i64 0, .int .i64 0, .slice none 0 0, .slice none 0 0, .slice none 0 0] 67) ∧ w3.heap.size = w.heap.size + 3 ∧ OB w3 w.heap.size 22 1 (fun _ => .slice p n c) ∧ OB w3 (w.heap.size + 1) 24 3 (spC ls le sp) ∧ OB w3 (w.heap.size + 2) 67 6 clZ ∧ Below w.heap.size w w3 from by
    refine ⟨_, rfl, by simp, ?_, ?_, ?_, (((Below.refl _ _).alloc (Nat.le_refl _) _).alloc (by simp) _).alloc (by simp; omega) _⟩
    · refine ob_old' (ob_old' ?_ _) _
      unfold OB; rw [heap_alloc_new]; rfl
    · refine ob_old' ?_ _
      have := heap_alloc_new (w.alloc (Obj.cells #[.slice p n c] 22)) (Obj.cells #[.int .i64 ls, .int .i64 le, .int .i64 sp] 24)
      unfold OB
      simp only [World.size_alloc] at this
      rw [this]; rfl
    · have := heap_alloc_new ((w.alloc (Obj.cells #[.slice p n c] 22)).alloc (Obj.cells #[.int .i64 ls, .int .i64 le, .int .i64 sp] 24)) (Obj.cells #[.int .i64 0, .int .i64 0, .int .i64 0, .slice none 0 0, .slice none 0 0, .slice none 0 0] 67)
      unfold OB
      simp only [World.size_alloc] at this
      rw [this]; rfl)
  go_enter Try.func33, Try.ntmps33
  go_upto_region 2 with fail
  obtain ⟨w3, e3, s3, b0, b1, b2, bb⟩ := B3.out
  clear B3
  rw [← e3]
  clear e3
  have s0 : w3.cell? ⟨w.heap.size + 1, 0, none⟩ = some (.int .i64 ls) := b1.cell (k := 0) (by decide)
  have s1 : w3.cell? ⟨w.heap.size + 1, 1, none⟩ = some (.int .i64 le) := b1.cell (k := 1) (by decide)
  have s2 : w3.cell? ⟨w.heap.size + 1, 2, none⟩ = some (.int .i64 sp) := b1.cell (k := 2) (by decide)
  have BB := Lib.hid (show w3.heap.size = w.heap.size + 3 ∧ OB w3 w.heap.size 22 1 (fun _ => .slice p n c) ∧ OB w3 (w.heap.size + 1) 24 3 (spC ls le sp) ∧ OB w3 (w.heap.size + 2) 67 6 clZ ∧ Below w.heap.size w w3 from ⟨s3, b0, b1, b2, bb⟩)
  clear s3 b0 b1 b2 bb
  go_cut [6] from 14 to 22 (fun kv wx => ∃ gk gp gf gc, kv = .pointer (some ⟨gk, 0, none⟩) ∧ Hid (SoM w p c n ls le sp gk gp gf gc 0 (fun _ => 0) (fun _ => fl0) (fun _ => 0) (fun _ _ => 0) wx) ∧ Hid (SoD w.heap.size gk gp gf gc 0 (fun _ => 0)))
  case first =>
    have SC : ScX (w.heap.size + 1) ls le sp w3 := ⟨s0, s1, s2⟩
    have MK1 : ∀ W : World, (Instr.makeSlice 36 (.int .i64 (n : Int)) (.int .i64 (n : Int))).run Try.prog W = .ok (.slice (some ⟨W.heap.size, 0, none⟩) n n) (W.alloc (.cells (madeCells (Value.int .i64 0).cells (n * 1)) 3)) := fun W => by
      have := run_make (P := Try.prog) W 36 3 i0 (.int .i64 0) Try.underlying36 hi hz0 .i64 .i64 n n (by omega) (Int.le_refl _) (by rw [hz2]; omega) (by omega)
      rw [hz1] at this
      simpa using this
    have MK2 : ∀ W : World, (Instr.makeSlice 22 (.int .i64 (n : Int)) (.int .i64 (n : Int))).run Try.prog W = .ok (.slice (some ⟨W.heap.size, 0, none⟩) n n) (W.alloc (.cells (madeCells (Value.agg #[.int .u8 0, .int .u8 0, .int .u8 0, .int .u8 0, .int .i64 0, .int .i64 0]).cells (n * 6)) 55)) := fun W => by
      have := run_make (P := Try.prog) W 22 55 i1 _ Try.underlying22 hi1 hy0 .i64 .i64 n n (by omega) (Int.le_refl _) (by rw [hy2]; omega) (by omega)
      rw [hy1] at this
      simpa using this
    have MK3 : ∀ W : World, (Instr.makeSlice 60 (.int .i64 (n : Int)) (.int .i64 (n : Int))).run Try.prog W = .ok (.slice (some ⟨W.heap.size, 0, none⟩) n n) (W.alloc (.cells (madeCells (Value.slice none 0 0).cells (n * 1)) 36)) := fun W => by
      have := run_make (P := Try.prog) W 60 36 i2 (.slice none 0 0) Try.underlying60 hi2 hx0 .i64 .i64 n n (by omega) (Int.le_refl _) (by rw [hx2]; omega) (by omega)
      rw [hx1] at this
      simpa using this
    go_region_held3 (fun w' => w'.cell? ⟨w.heap.size + 1, 0, none⟩ = some (.int .i64 ls) ∧ w'.cell? ⟨w.heap.size + 1, 1, none⟩ = some (.int .i64 le) ∧ w'.cell? ⟨w.heap.size + 1, 2, none⟩ = some (.int .i64 sp)) (first | exact ⟨s0, s1, s2⟩ | exact ⟨cellDr s0, cellDr s1, cellDr s2⟩ | exact SC.al | exact SC.al.al | exact SC.al.al.al | exact SC.al.al.al.al | exact SC.al.dr | exact SC.al.al.dr | exact SC.al.al.al.dr | exact SC.dr.al | exact SC.dr.al.al | exact SC.dr.al.al.al) (fail)
    all_goals
      go_wp2_with fail
      go_meet
      obtain ⟨e1, o0, o1, o2, o3⟩ := BB.out
      refine' so_made e1 o0 o1 o2 o3 ?xk ?xp ?xf ?xc ?st ?ap 1
      case xk => first | exact (four _ _ _ _ _).1 | exact (four _ _ _ _ _).2.1 | exact (four _ _ _ _ _).2.2.1 | exact (four _ _ _ _ _).2.2.2.1
      case xp => first | exact (four _ _ _ _ _).1 | exact (four _ _ _ _ _).2.1 | exact (four _ _ _ _ _).2.2.1 | exact (four _ _ _ _ _).2.2.2.1
      case xf => first | exact (four _ _ _ _ _).1 | exact (four _ _ _ _ _).2.1 | exact (four _ _ _ _ _).2.2.1 | exact (four _ _ _ _ _).2.2.2.1
      case xc => first | exact (four _ _ _ _ _).1 | exact (four _ _ _ _ _).2.1 | exact (four _ _ _ _ _).2.2.1 | exact (four _ _ _ _ _).2.2.2.1
      case st => exact (four _ _ _ _ _).2.2.2.2
      case ap => omega
  case rest =>
  obtain ⟨gk, gp, gf, gc, rfl, HM, HD⟩ := hcut
  clear s0 s1 s2 BB
  have k3 : wc.cell? ⟨gk, 3, none⟩ = some (.slice (some ⟨gp, 0, none⟩) n n) := HM.out.kx.cell (k := 3) (by decide)
  have LP := Lib.hid HD.out.p3
  go_wp2_with fail
  clear k3
  go_loopw [25] (fun kv wr => ∃ i : Nat, i ≤ n ∧ kv = .int .i64 i ∧ Hid (SoM w p c n ls le sp gk gp gf gc 0 (fun k => if k < i then (k : Int) else 0) (fun _ => fl0) (fun _ => 0) (fun _ _ => 0) wr)) (fun kv _ => n - (intOf kv).toNat)
  case atStart => exact ⟨0, Nat.zero_le _, rfl, HM⟩
  case round =>
    clear HM
    obtain ⟨i, hi', rfl, HM⟩ := hrel
    have k3 : wr.cell? ⟨gk, 3, none⟩ = some (.slice (some ⟨gp, 0, none⟩) n n) := HM.out.kx.cell (k := 3) (by decide)
    by_cases t1 : i < n
    case pos =>
      have i1 : (0 : Int) ≤ (i : Int) := by omega
      have i2 : (i : Int) < (n : Int) := by omega
      have ci := HM.out.px.cell t1
      have fi := HM.out.px.frozen i
      have NX := Lib.hid (HM.out.setP HD.out (Fm.set (w := wr) ⟨gp, i, none⟩ (.int .i64 i) rfl) ((HM.out.px.set i (.int .i64 i)).ext (c' := fun k => .int .i64 (if k < i + 1 then (k : Int) else 0)) fun k _ => by
        unfold updV
        by_cases e : k = i
        · subst e; simp
        · rw [if_neg e]
          dsimp only
          by_cases l : k < i
          · rw [if_pos l, if_pos (by omega)]
          · rw [if_neg l, if_neg (by omega)]))
      clear HM
      generalize (if i < i then (i : Int) else 0) = z at ci
      go_wp2_with fail
      go_roundw
      case rel => exact ⟨i + 1, by omega, by go_num, NX⟩
      case measure => simp [intOf]; omega
    obtain rfl : i = n := by omega
    have S0 := Lib.hid (SW.ext' (HM.out.px.sw (f := fun k => if k < i then (k : Int) else 0) (by omega)))
    have HFR := Lib.hid (R.out.below HM.out.bl)
    have K0 := Lib.hid (show KpF w.heap.size p i c F gp wr from ⟨HM.out.bx.cell (k := 0) (by decide), HFR.out, by have := HD.out.p3; omega, fun x hx => by have := HP.out x hx; have := HD.out.p3; omega, by have := HM.out.sizes; omega⟩)
    have CC := Lib.hid (sortStable_any gp i i 43 (.pointer (some ⟨w.heap.size, 0, none⟩)) (fun x => 0 ≤ x ∧ x < i) (RK fun k => (F k).key) (ocK F) (KpF w.heap.size p i c F gp)
      ⟨fun x y w' h hx hy => less_any w.heap.size p i c F KOK.out gp x y w' h hx hy, fun x y hx hy h => by rw [ocK_lt OK.out hy hx]; exact rk_neg _ x y h, fun A B sz bl h => h.keep sz bl, rk_Tot _ _, fun args W' => by rfl⟩
      wr K0.out (fun k => (k : Int)) wr S0.out (by omega) (fun _ _ => rfl) (fun k hk => ⟨by omega, by omega⟩))
    clear S0 K0
    go_wp2_with fail
    refine CC.out.mono ?_
    rintro e w4 ⟨rfl, h, S1, P1, R1⟩
    have IO : (List.range i).map h = ordK (fun k => (F k).key) i := key_uniq (sort_ord P1) (ordK_ord i) (fun a c ij jn => by
      have gm : ∀ k, k < i → gi ((List.range i).map h) k = h k := fun k h => by simp [gi, h]
      rw [gm a (by omega), gm c jn]
      exact R1 a c (Nat.zero_le _) ij jn) (ordK_rd i)
    have HM2 := Lib.hid (HM.out.setP HD.out (W' := w4) ⟨S1.os, S1.tp, S1.ou, S1.sz, fun k hk hm => S1.bl k hm hk⟩ (S1.ob.ext (c' := fun k => .int .i64 (gi (ordK (fun k => (F k).key) i) k)) fun k hk => by rw [← IO]; simp [gi, hk]))
    clear CC S1 P1 R1 IO HM HFR k3
    have k3 : w4.cell? ⟨gk, 3, none⟩ = some (.slice (some ⟨gp, 0, none⟩) i i) := HM2.out.kx.cell (k := 3) (by decide)
    go_wp2_with fail
    have IOP := Lib.hid (show ∀ k, k < i → 0 ≤ gi (ordK (fun k => (F k).key) i) k ∧ gi (ordK (fun k => (F k).key) i) k < i from (ordK_ord i).2.1)
    have INO := Lib.hid (show ∀ k, F (gi (ordK (fun k => (F k).key) i) k).toNat = inO F i k from fun _ => rfl)
    generalize hO : ordK (fun k => (F k).key) i = O at *
    have HOO := Lib.hid hO
    clear hO
    clear k3
    go_loopw [41] (fun kv wr => ∃ k : Nat, k ≤ i ∧ kv = .int .i64 k ∧ Hid (SoM w p c i ls le sp gk gp gf gc 0 (fun k => gi O k) (fun j => if j < k then inO F i j else fl0) (fun _ => 0) (fun _ _ => 0) wr)) (fun kv _ => i - (intOf kv).toNat)
    case atStart => exact ⟨0, Nat.zero_le _, rfl, HM2⟩
    case round =>
      clear HM2
      obtain ⟨k, hk, rfl, HM⟩ := hrel
      by_cases t1 : k < i
      case pos =>
        have i1 : (0 : Int) ≤ (k : Int) := by omega
        have i2 : (k : Int) < (i : Int) := by omega
        have cp := HM.out.px.cell t1
        have k4 : wr.cell? ⟨gk, 4, none⟩ = some (.slice (some ⟨gf, 0, none⟩) i i) := HM.out.kx.cell (k := 4) (by decide)
        have x0 : wr.cell? ⟨w.heap.size, 0, none⟩ = some (.slice p i c) := HM.out.bx.cell (k := 0) (by decide)
        have vb := IOP.out k t1
        have VF := Lib.hid (INO.out k)
        generalize gi O k = vv at cp vb VF
        obtain ⟨v, rfl⟩ := Int.eq_ofNat_of_zero_le vb.1
        have vi : v < i := by omega
        have v1 : (0 : Int) ≤ (v : Int) := by omega
        have v2 : (v : Int) < (i : Int) := by omega
        obtain ⟨x, rfl, -⟩ := R.out v vi
        obtain ⟨-, a0, a1, a2, a3, a4, a5⟩ := (R.out.below HM.out.bl).at1 vi rfl
        have NX := Lib.hid ((HM.out.setG HD.out (fm_setF wr gf k (F v)) ((HM.out.fx.setF k (F v)).ext (c' := rowF fun j => if j < k + 1 then inO F i j else fl0) fun m _ => by
          have hg : upG (fun j => if j < k then inO F i j else fl0) k (F v) (m / 6) = if m / 6 < k + 1 then inO F i (m / 6) else fl0 := by
            unfold upG
            by_cases e : m / 6 = k
            · rw [if_pos e, e, if_pos (by omega)]; exact VF.out
            · rw [if_neg e]
              dsimp only
              by_cases l : m / 6 < k
              · rw [if_pos l, if_pos (by omega)]
              · rw [if_neg l, if_neg (by omega)]
          unfold rowF
          rw [hg])).call (Below.refl _ _).drew)
        have z0 := HM.out.fx.cell (k := k * 6) (by omega)
        have z1 := HM.out.fx.cell (k := k * 6 + 1) (by omega)
        have z2 := HM.out.fx.cell (k := k * 6 + 2) (by omega)
        have z3 := HM.out.fx.cell (k := k * 6 + 3) (by omega)
        have z4 := HM.out.fx.cell (k := k * 6 + 4) (by omega)
        have z5 := HM.out.fx.cell (k := k * 6 + 5) (by omega)
        obtain ⟨f0, f1, f2, f3, f4, f5⟩ := rowF_k (fun j => if j < k then inO F i j else fl0) k
        rw [f0] at z0
        rw [f1] at z1
        rw [f2] at z2
        rw [f3] at z3
        rw [f4] at z4
        rw [f5] at z5
        have y0 := HM.out.fx.frozen (k * 6)
        have y1 := HM.out.fx.frozen (k * 6 + 1)
        have y2 := HM.out.fx.frozen (k * 6 + 2)
        have y3 := HM.out.fx.frozen (k * 6 + 3)
        have y4 := HM.out.fx.frozen (k * 6 + 4)
        have y5 := HM.out.fx.frozen (k * 6 + 5)
        unfold setF at NX
        clear HM VF f0 f1 f2 f3 f4 f5 vb
        generalize F v = s at *
        generalize (if k < k then inO F i k else fl0) = s' at *
        go_upto_region 12 with fail
        refine wp_region_G (fun w' => w'.cell? ⟨gk, 4, none⟩ = some (.slice (some ⟨gf, 0, none⟩) i i) ∧ w'.cell? ⟨w.heap.size, 0, none⟩ = some (.slice (some x) i c) ∧ w'.cell? (x.add (v * 6)) = some (.int .u8 s.ka) ∧ w'.cell? ⟨(x.add (v * 6)).block, (x.add (v * 6)).off + 1, none⟩ = some (.int .u8 s.kb) ∧ w'.cell? ⟨(x.add (v * 6)).block, (x.add (v * 6)).off + 2, none⟩ = some (.int .u8 s.kc) ∧ w'.cell? ⟨(x.add (v * 6)).block, (x.add (v * 6)).off + 3, none⟩ = some (.int .u8 s.kd) ∧ w'.cell? ⟨(x.add (v * 6)).block, (x.add (v * 6)).off + 4, none⟩ = some (.int .i64 s.mic) ∧ w'.cell? ⟨(x.add (v * 6)).block, (x.add (v * 6)).off + 5, none⟩ = some (.int .i64 s.gr)) 8 (by kernel_rfl) ?_
        have hS : wr.drew.cell? ⟨gk, 4, none⟩ = some (.slice (some ⟨gf, 0, none⟩) i i) ∧ wr.drew.cell? ⟨w.heap.size, 0, none⟩ = some (.slice (some x) i c) ∧ wr.drew.cell? (x.add (v * 6)) = some (.int .u8 s.ka) ∧ wr.drew.cell? ⟨(x.add (v * 6)).block, (x.add (v * 6)).off + 1, none⟩ = some (.int .u8 s.kb) ∧ wr.drew.cell? ⟨(x.add (v * 6)).block, (x.add (v * 6)).off + 2, none⟩ = some (.int .u8 s.kc) ∧ wr.drew.cell? ⟨(x.add (v * 6)).block, (x.add (v * 6)).off + 3, none⟩ = some (.int .u8 s.kd) ∧ wr.drew.cell? ⟨(x.add (v * 6)).block, (x.add (v * 6)).off + 4, none⟩ = some (.int .i64 s.mic) ∧ wr.drew.cell? ⟨(x.add (v * 6)).block, (x.add (v * 6)).off + 5, none⟩ = some (.int .i64 s.gr) := ⟨cellDr k4, cellDr x0, cellDr a0, cellDr a1, cellDr a2, cellDr a3, cellDr a4, cellDr a5⟩
        refine wpAnyG_take (i := 0) (oi := _) (v := .pointer (some ⟨gk, 4, none⟩)) rfl (by kernel_rfl) (by kernel_rfl) (by kernel_rfl) (by kernel_rfl) (by kernel_rfl) (by decide) (fun _ _ _ h => h) (by rfl) (fun w' hw' => ?_) hS ?_
        · obtain ⟨h1, h2, h3, h4, h5, h6, h7, h8⟩ := hw'
          go_simp
        try simp only [Act.put, List.setIfInBounds_toArray, List.set_cons_zero, List.set_cons_succ]
        refine wpAnyG_take (i := 1) (oi := _) (v := .slice (some ⟨gf, 0, none⟩) i i) rfl (by kernel_rfl) (by kernel_rfl) (by kernel_rfl) (by kernel_rfl) (by kernel_rfl) (by decide) (fun _ _ _ h => h) (by rfl) (fun w' hw' => ?_) hS ?_
        · obtain ⟨h1, h2, h3, h4, h5, h6, h7, h8⟩ := hw'
          go_simp
        try simp only [Act.put, List.setIfInBounds_toArray, List.set_cons_zero, List.set_cons_succ]
        refine wpAnyG_take (i := 2) (oi := _) (v := .int .i64 (k : Int)) rfl (by kernel_rfl) (by kernel_rfl) (by kernel_rfl) (by kernel_rfl) (by kernel_rfl) (by decide) (fun _ _ _ h => h) (by rfl) (fun w' hw' => ?_) hS ?_
        · obtain ⟨h1, h2, h3, h4, h5, h6, h7, h8⟩ := hw'
          go_simp
        try simp only [Act.put, List.setIfInBounds_toArray, List.set_cons_zero, List.set_cons_succ]
        refine wpAnyG_take (i := 3) (oi := _) (v := .slice (some x) i c) rfl (by kernel_rfl) (by kernel_rfl) (by kernel_rfl) (by kernel_rfl) (by kernel_rfl) (by decide) (fun _ _ _ h => h) (by rfl) (fun w' hw' => ?_) hS ?_
        · obtain ⟨h1, h2, h3, h4, h5, h6, h7, h8⟩ := hw'
          go_simp
        try simp only [Act.put, List.setIfInBounds_toArray, List.set_cons_zero, List.set_cons_succ]
        refine wpAnyG_take (i := 4) (oi := _) (v := .int .i64 (v : Int)) rfl (by kernel_rfl) (by kernel_rfl) (by kernel_rfl) (by kernel_rfl) (by kernel_rfl) (by decide) (fun _ _ _ h => h) (by rfl) (fun w' hw' => ?_) hS ?_
        · obtain ⟨h1, h2, h3, h4, h5, h6, h7, h8⟩ := hw'
          go_simp
        try simp only [Act.put, List.setIfInBounds_toArray, List.set_cons_zero, List.set_cons_succ]
        refine wpAnyG_take (i := 5) (oi := _) (v := .pointer (some (x.add (v * 6)))) rfl (by kernel_rfl) (by kernel_rfl) (by kernel_rfl) (by kernel_rfl) (by kernel_rfl) (by decide) (fun _ _ _ h => h) (by rfl) (fun w' hw' => ?_) hS ?_
        · obtain ⟨h1, h2, h3, h4, h5, h6, h7, h8⟩ := hw'
          go_simp
        try simp only [Act.put, List.setIfInBounds_toArray, List.set_cons_zero, List.set_cons_succ]
        refine wpAnyG_take (i := 6) (oi := _) (v := .agg #[.int .u8 s.ka, .int .u8 s.kb, .int .u8 s.kc, .int .u8 s.kd, .int .i64 s.mic, .int .i64 s.gr]) rfl (by kernel_rfl) (by kernel_rfl) (by kernel_rfl) (by kernel_rfl) (by kernel_rfl) (by decide) (fun _ _ _ h => h) (by rfl) (fun w' hw' => ?_) hS ?_
        · obtain ⟨h1, h2, h3, h4, h5, h6, h7, h8⟩ := hw'
          go_simp
        try simp only [Act.put, List.setIfInBounds_toArray, List.set_cons_zero, List.set_cons_succ]
        refine wpAnyG_take (i := 7) (oi := _) (v := .pointer (some ⟨gf, k * 6, none⟩)) rfl (by kernel_rfl) (by kernel_rfl) (by kernel_rfl) (by kernel_rfl) (by kernel_rfl) (by decide) (fun _ _ _ h => h) (by rfl) (fun w' hw' => ?_) hS ?_
        · obtain ⟨h1, h2, h3, h4, h5, h6, h7, h8⟩ := hw'
          go_simp
        try simp only [Act.put, List.setIfInBounds_toArray, List.set_cons_zero, List.set_cons_succ]
        refine wpAnyG_one (i := 8) (o := _) (by kernel_rfl) rfl (fun KK hK => ?_)
        go_simp
        refine hK.out _ _ (fun h => absurd h (by decide)) ?_
        try simp only [Act.put, List.setIfInBounds_toArray, List.set_cons_zero, List.set_cons_succ]
        clear hK
        refine wpAnyG_done (by kernel_rfl) ?_ _
        all_goals go_wp2_with fail
        all_goals go_roundw
        case rel => exact ⟨k + 1, by omega, by go_num, NX⟩
        case measure => simp [intOf]; omega
      obtain rfl : k = i := by omega
      have k5 : wr.cell? ⟨gk, 5, none⟩ = some (.slice (some ⟨gc, 0, none⟩) k k) := HM.out.kx.cell (k := 5) (by decide)
      go_wp2_with fail
      clear k5
      have HMZ := Lib.hid (show ∃ gr D, SoM w p c k ls le sp gk gp gf gc 0 (fun k => gi O k) (inO F k) gr D wr ∧ SoD w.heap.size gk gp gf gc 0 gr from ⟨_, _, ⟨HM.out.bx, HM.out.sx, HM.out.rx, HM.out.kx, HM.out.px, HM.out.fx.ext fun m hm => by
        unfold rowF
        dsimp only
        rw [if_pos (by omega)], HM.out.cx, HM.out.rr, HM.out.bl⟩, HD.out⟩)
      clear HM HD i1 hi1 hy0 hy1 hy2
      have MK1 : ∀ W : World, (Instr.makeSlice 36 (.int .i64 ((k : Int) + 1)) (.int .i64 ((k : Int) + 1))).run Try.prog W = .ok (.slice (some ⟨W.heap.size, 0, none⟩) (k + 1) (k + 1)) (W.alloc (.cells (madeCells #[.int .i64 0] (k + 1)) 3)) := fun W => by
        have := run_make (P := Try.prog) W 36 3 i0 (.int .i64 0) Try.underlying36 hi hz0 .i64 .i64 ((k + 1 : Nat) : Int) ((k + 1 : Nat) : Int) (by omega) (Int.le_refl _) (by rw [hz2]; omega) (by omega)
        rw [hz1, Nat.mul_one, show (Value.int .i64 0).cells = #[.int .i64 0] from rfl, Int.toNat_natCast] at this
        rw [show ((k : Int) + 1) = ((k + 1 : Nat) : Int) from by omega]
        exact this
      have e1 : IntKind.i64.wrap ((k : Int) + 1) = (k : Int) + 1 := hwI (by omega) (by omega)
      clear hi hz0 hz1 hz2 i2 hi2 hx0 hx1 hx2
      have IOK := Lib.hid (show ∀ q, q < k → (inO F k q).ok from fun q hq => by rw [← INO.out q]; have := IOP.out q hq; exact OK.out _ (by omega))
      have IKO := Lib.hid (show ∀ q, q < k → (inO F k q).kok from fun q hq => by rw [← INO.out q]; have := IOP.out q hq; exact KOK.out _ (by omega))
      go_loopw [58] (fun kv wr => ∃ (r : Nat), r ≤ k ∧ kv = .int .i64 r ∧ Hid (∃ gr D, SoM w p c k ls le sp gk gp gf gc r (fun k => gi O k) (inO F k) gr D wr ∧ SoD w.heap.size gk gp gf gc r gr ∧ ∀ i, i < r → ∀ j, D i j = cMat (inO F k) le sp i j ∨ k < j)) (fun kv _ => k - (intOf kv).toNat)
      case atStart =>
        obtain ⟨gr, D, a, b⟩ := HMZ.out
        exact ⟨0, Nat.zero_le _, rfl, Lib.hid ⟨gr, D, a, b, fun i hi => absurd hi (by omega)⟩⟩
      case round =>
        clear HMZ
        obtain ⟨r, hr, rfl, HE⟩ := hrel
        by_cases t2 : r < k
        case pos =>
          obtain ⟨gr, D, HM, HD, HV⟩ := HE.out
          replace HM := Lib.hid HM
          replace HD := Lib.hid HD
          replace HV := Lib.hid HV
          clear HE
          have i1 : (0 : Int) ≤ (r : Int) := by omega
          have i2 : (r : Int) < (k : Int) := by omega
          have k5 : wr.cell? ⟨gk, 5, none⟩ = some (.slice (some ⟨gc, 0, none⟩) k k) := HM.out.kx.cell (k := 5) (by decide)
          have cc := HM.out.cx.cell t2
          have fc := HM.out.cx.frozen r
          have NM := Lib.hid (HM.out.row HD.out (g := wr.heap.size) rfl (f := fun _ => 0) (o := Obj.cells (madeCells #[.int .i64 0] (k + 1)) 3) (by
            have := ob_made (W := wr) (t := 3) (madeInts (k + 1))
            exact this))
          have ND := Lib.hid (HD.out.row HM.out (g := wr.heap.size) rfl)
          rw [show rowS k r gr r = .slice none 0 0 from if_neg (by omega)] at cc
          have gl := HM.out.cx.lt
          have gne : ¬ gc = wr.heap.size := by omega
          have gne2 : ¬ wr.heap.size = gc := by omega
          clear HM HD
          go_upto_region 17 with fail
          refine wp_region_G (fun w' => w'.cell? ⟨gk, 5, none⟩ = some (.slice (some ⟨gc, 0, none⟩) k k)) 6 (by kernel_rfl) ?_
          have hS : wr.drew.cell? ⟨gk, 5, none⟩ = some (.slice (some ⟨gc, 0, none⟩) k k) := cellDr k5
          refine wpAnyG_take (i := 0) (oi := _) (v := .pointer (some ⟨gk, 5, none⟩)) rfl (by kernel_rfl) (by kernel_rfl) (by kernel_rfl) (by kernel_rfl) (by kernel_rfl) (by decide) (fun _ _ _ h => h) (by rfl) (fun w' hw' => ?_) hS ?_
          · have h1 := hw'
            go_simp
          try simp only [Act.put, List.setIfInBounds_toArray, List.set_cons_zero, List.set_cons_succ]
          refine wpAnyG_take (i := 1) (oi := _) (v := .slice (some ⟨gc, 0, none⟩) k k) rfl (by kernel_rfl) (by kernel_rfl) (by kernel_rfl) (by kernel_rfl) (by kernel_rfl) (by decide) (fun _ _ _ h => h) (by rfl) (fun w' hw' => ?_) hS ?_
          · have h1 := hw'
            go_simp
          try simp only [Act.put, List.setIfInBounds_toArray, List.set_cons_zero, List.set_cons_succ]
          refine wpAnyG_take (i := 2) (oi := _) (v := .int .i64 (r : Int)) rfl (by kernel_rfl) (by kernel_rfl) (by kernel_rfl) (by kernel_rfl) (by kernel_rfl) (by decide) (fun _ _ _ h => h) (by rfl) (fun w' hw' => ?_) hS ?_
          · have h1 := hw'
            go_simp
          try simp only [Act.put, List.setIfInBounds_toArray, List.set_cons_zero, List.set_cons_succ]
          refine wpAnyG_take (i := 3) (oi := _) (v := .int .i64 (k : Int)) rfl (by kernel_rfl) (by kernel_rfl) (by kernel_rfl) (by kernel_rfl) (by kernel_rfl) (by decide) (fun _ _ _ h => h) (by rfl) (fun w' hw' => ?_) hS ?_
          · have h1 := hw'
            go_simp
          try simp only [Act.put, List.setIfInBounds_toArray, List.set_cons_zero, List.set_cons_succ]
          refine wpAnyG_take (i := 4) (oi := _) (v := .int .i64 ((k : Int) + 1)) rfl (by kernel_rfl) (by kernel_rfl) (by kernel_rfl) (by kernel_rfl) (by kernel_rfl) (by decide) (fun _ _ _ h => h) (by rfl) (fun w' hw' => ?_) hS ?_
          · have h1 := hw'
            go_simp
          try simp only [Act.put, List.setIfInBounds_toArray, List.set_cons_zero, List.set_cons_succ]
          refine wpAnyG_one (i := 5) (o := _) (by kernel_rfl) rfl (fun KK hK => ?_)
          go_simp
          refine hK.out _ _ (fun _ => by first | exact cell_al _ (cellDr k5) | exact cellDr (cell_al _ k5)) ?_
          try simp only [Act.put, List.setIfInBounds_toArray, List.set_cons_zero, List.set_cons_succ]
          clear hK
          refine wpAnyG_one (i := 6) (o := _) (by kernel_rfl) rfl (fun KK hK => ?_)
          go_simp
          refine hK.out _ _ (fun h => absurd h (by decide)) ?_
          try simp only [Act.put, List.setIfInBounds_toArray, List.set_cons_zero, List.set_cons_succ]
          clear hK
          refine wpAnyG_one (i := 7) (o := _) (by kernel_rfl) rfl (fun KK hK => ?_)
          go_simp
          refine hK.out _ _ (fun h => absurd h (by decide)) ?_
          try simp only [Act.put, List.setIfInBounds_toArray, List.set_cons_zero, List.set_cons_succ]
          clear hK
          refine wpAnyG_done (by kernel_rfl) ?_ _
          replace NM := Lib.hid (NM.out.call (Below.refl _ _).drew)
          generalize hwb : ((wr.setCell ⟨gc, r, none⟩ (.slice (some ⟨wr.heap.size, 0, none⟩) (k + 1) (k + 1))).alloc (Obj.cells (madeCells #[.int .i64 0] (k + 1)) 3)).drew = wb at *
          generalize hgq : upN gr r wr.heap.size = gq at *
          have HGQ := Lib.hid (show gq r = wr.heap.size from by rw [← hgq]; exact if_pos rfl)
          have HV2 := Lib.hid (show ∀ i, i < r → ∀ j, upR D r (fun _ => 0) i j = cMat (inO F k) le sp i j ∨ k < j from fun i hi j => by unfold upR; rw [if_neg (by omega)]; exact HV.out i hi j)
          have HZ := Lib.hid (show upR D r (fun _ => 0) r = fun _ => 0 from if_pos rfl)
          generalize upR D r (fun _ => 0) = D' at *
          clear hwb hgq HV k5 fc cc gl gne gne2 hS MK1
          have e2 : IntKind.i64.wrap ((r : Int) + 1) = (r : Int) + 1 := hwI (by omega) (by omega)
          go_wp2_with fail
          go_loopw [11] (fun jv wq => ∃ (j : Nat), r + 1 ≤ j ∧ j ≤ k + 1 ∧ jv = .int .i64 (j : Int) ∧ Hid (∃ D, SoM w p c k ls le sp gk gp gf gc (r + 1) (fun k => gi O k) (inO F k) gq D wq ∧ (∀ i, i < r → ∀ j, D i j = cMat (inO F k) le sp i j ∨ k < j) ∧ (∀ q, q < j → D r q = cMat (inO F k) le sp r q))) (fun jv _ => k + 1 - (intOf jv).toNat)
          case atStart => exact ⟨r + 1, Nat.le_refl _, by omega, by simp, Lib.hid ⟨D', NM.out, HV2.out, fun j hj => by rw [HZ.out]; unfold cMat; rw [if_neg (by omega)]⟩⟩
          case round =>
            clear NM HV2 HZ
            rename World => wq
            obtain ⟨j, hj1, hj2, rfl, HE⟩ := hrel
            by_cases t3 : j ≤ k
            case pos =>
              obtain ⟨D, HM, HV, HW⟩ := HE.out
              replace HM := Lib.hid HM
              replace HV := Lib.hid HV
              replace HW := Lib.hid HW
              clear HE
              have k5 : wq.cell? ⟨gk, 5, none⟩ = some (.slice (some ⟨gc, 0, none⟩) k k) := HM.out.kx.cell (k := 5) (by decide)
              have k4 : wq.cell? ⟨gk, 4, none⟩ = some (.slice (some ⟨gf, 0, none⟩) k k) := HM.out.kx.cell (k := 4) (by decide)
              have s0 : wq.cell? ⟨w.heap.size + 1, 0, none⟩ = some (.int .i64 ls) := HM.out.sx.cell (k := 0) (by decide)
              have s1 : wq.cell? ⟨w.heap.size + 1, 1, none⟩ = some (.int .i64 le) := HM.out.sx.cell (k := 1) (by decide)
              have s2 : wq.cell? ⟨w.heap.size + 1, 2, none⟩ = some (.int .i64 sp) := HM.out.sx.cell (k := 2) (by decide)
              have cr := HM.out.cx.cell t2
              rw [show rowS k (r + 1) gq r = .slice (some ⟨gq r, 0, none⟩) (k + 1) (k + 1) from if_pos (by omega)] at cr
              have cj := (HM.out.rr r (by omega)).cell (k := j) (by omega)
              obtain ⟨m, hm⟩ : ∃ m, j = r + (m + 1) := ⟨j - r - 1, by omega⟩
              have CC := Lib.hid (show ∀ W, Below wq.heap.size wq W → Calls Try.prog 47 #[.slice (some ⟨gf, r * 6, none⟩) (j - r) (k - r), .agg #[.int .i64 ls, .int .i64 le, .int .i64 sp]] W fun e w' => e = .returned (.int .i64 (lnc (inO F k) le sp r j)) ∧ Below W.heap.size W w' from fun W bW => by
                have := lineCost_any (some ⟨gf, r * 6, none⟩) (k - r) m (fun q => inO F k (r + q)) ls le sp W (fun q hq => ⟨⟨gf, r * 6, none⟩, rfl, by
                  have := ((HM.out.fx.below bW).flAt (i := r + q) (by omega))
                  rw [addK, show r * 6 + q * 6 = (r + q) * 6 by omega]
                  exact this⟩) (by omega) (fun q hq => IOK.out (r + q) (by omega)) (fun q hq => IKO.out (r + q) (by omega))
                rw [lnc_sh, ← hm] at this
                rw [show j - r = m + 1 by omega]
                exact this)
              have d1 : (r : Int) ≤ (j : Int) := by omega
              have d2 : (j : Int) ≤ (k : Int) := by omega
              have d3 : (0 : Int) ≤ (j : Int) := by omega
              have d4 : (j : Int) < ((k + 1 : Nat) : Int) := by omega
              have d5 : (j : Int) < (k : Int) + 1 := by omega
              have e3 : IntKind.i64.wrap ((j : Int) + 1) = (j : Int) + 1 := hwI (by omega) (by omega)
              clear hm
              generalize hgr : gq r = gr at *
              generalize D r j = dj at cj
              go_upto_region 21 with fail
              refine wp_region_G (fun w' => w'.cell? ⟨gk, 5, none⟩ = some (.slice (some ⟨gc, 0, none⟩) k k) ∧ w'.cell? ⟨gc, r, none⟩ = some (.slice (some ⟨gr, 0, none⟩) (k + 1) (k + 1)) ∧ w'.cell? ⟨gk, 4, none⟩ = some (.slice (some ⟨gf, 0, none⟩) k k) ∧ w'.cell? ⟨w.heap.size + 1, 0, none⟩ = some (.int .i64 ls) ∧ w'.cell? ⟨w.heap.size + 1, 1, none⟩ = some (.int .i64 le) ∧ w'.cell? ⟨w.heap.size + 1, 2, none⟩ = some (.int .i64 sp)) 13 (by kernel_rfl) ?_
              have hS : wq.drew.cell? ⟨gk, 5, none⟩ = some (.slice (some ⟨gc, 0, none⟩) k k) ∧ wq.drew.cell? ⟨gc, r, none⟩ = some (.slice (some ⟨gr, 0, none⟩) (k + 1) (k + 1)) ∧ wq.drew.cell? ⟨gk, 4, none⟩ = some (.slice (some ⟨gf, 0, none⟩) k k) ∧ wq.drew.cell? ⟨w.heap.size + 1, 0, none⟩ = some (.int .i64 ls) ∧ wq.drew.cell? ⟨w.heap.size + 1, 1, none⟩ = some (.int .i64 le) ∧ wq.drew.cell? ⟨w.heap.size + 1, 2, none⟩ = some (.int .i64 sp) := ⟨cellDr k5, cellDr cr, cellDr k4, cellDr s0, cellDr s1, cellDr s2⟩
              refine wpAnyG_take (i := 0) (oi := _) (v := .pointer (some ⟨gk, 5, none⟩)) rfl (by kernel_rfl) (by kernel_rfl) (by kernel_rfl) (by kernel_rfl) (by kernel_rfl) (by decide) (fun _ _ _ h => h) (by rfl) (fun w' hw' => ?_) hS ?_
              · obtain ⟨h1, h2, h3, h4, h5, h6⟩ := hw'
                go_simp
              try simp only [Act.put, List.setIfInBounds_toArray, List.set_cons_zero, List.set_cons_succ]
              refine wpAnyG_take (i := 1) (oi := _) (v := .slice (some ⟨gc, 0, none⟩) k k) rfl (by kernel_rfl) (by kernel_rfl) (by kernel_rfl) (by kernel_rfl) (by kernel_rfl) (by decide) (fun _ _ _ h => h) (by rfl) (fun w' hw' => ?_) hS ?_
              · obtain ⟨h1, h2, h3, h4, h5, h6⟩ := hw'
                go_simp
              try simp only [Act.put, List.setIfInBounds_toArray, List.set_cons_zero, List.set_cons_succ]
              refine wpAnyG_take (i := 2) (oi := _) (v := .int .i64 (r : Int)) rfl (by kernel_rfl) (by kernel_rfl) (by kernel_rfl) (by kernel_rfl) (by kernel_rfl) (by decide) (fun _ _ _ h => h) (by rfl) (fun w' hw' => ?_) hS ?_
              · obtain ⟨h1, h2, h3, h4, h5, h6⟩ := hw'
                go_simp
              try simp only [Act.put, List.setIfInBounds_toArray, List.set_cons_zero, List.set_cons_succ]
              refine wpAnyG_take (i := 3) (oi := _) (v := .pointer (some ⟨gc, r, none⟩)) rfl (by kernel_rfl) (by kernel_rfl) (by kernel_rfl) (by kernel_rfl) (by kernel_rfl) (by decide) (fun _ _ _ h => h) (by rfl) (fun w' hw' => ?_) hS ?_
              · obtain ⟨h1, h2, h3, h4, h5, h6⟩ := hw'
                go_simp
              try simp only [Act.put, List.setIfInBounds_toArray, List.set_cons_zero, List.set_cons_succ]
              refine wpAnyG_take (i := 4) (oi := _) (v := .slice (some ⟨gr, 0, none⟩) (k + 1) (k + 1)) rfl (by kernel_rfl) (by kernel_rfl) (by kernel_rfl) (by kernel_rfl) (by kernel_rfl) (by decide) (fun _ _ _ h => h) (by rfl) (fun w' hw' => ?_) hS ?_
              · obtain ⟨h1, h2, h3, h4, h5, h6⟩ := hw'
                go_simp
              try simp only [Act.put, List.setIfInBounds_toArray, List.set_cons_zero, List.set_cons_succ]
              refine wpAnyG_take (i := 5) (oi := _) (v := .int .i64 (j : Int)) rfl (by kernel_rfl) (by kernel_rfl) (by kernel_rfl) (by kernel_rfl) (by kernel_rfl) (by decide) (fun _ _ _ h => h) (by rfl) (fun w' hw' => ?_) hS ?_
              · obtain ⟨h1, h2, h3, h4, h5, h6⟩ := hw'
                go_simp
              try simp only [Act.put, List.setIfInBounds_toArray, List.set_cons_zero, List.set_cons_succ]
              refine wpAnyG_take (i := 6) (oi := _) (v := .pointer (some ⟨gk, 4, none⟩)) rfl (by kernel_rfl) (by kernel_rfl) (by kernel_rfl) (by kernel_rfl) (by kernel_rfl) (by decide) (fun _ _ _ h => h) (by rfl) (fun w' hw' => ?_) hS ?_
              · obtain ⟨h1, h2, h3, h4, h5, h6⟩ := hw'
                go_simp
              try simp only [Act.put, List.setIfInBounds_toArray, List.set_cons_zero, List.set_cons_succ]
              refine wpAnyG_take (i := 7) (oi := _) (v := .slice (some ⟨gf, 0, none⟩) k k) rfl (by kernel_rfl) (by kernel_rfl) (by kernel_rfl) (by kernel_rfl) (by kernel_rfl) (by decide) (fun _ _ _ h => h) (by rfl) (fun w' hw' => ?_) hS ?_
              · obtain ⟨h1, h2, h3, h4, h5, h6⟩ := hw'
                go_simp
              try simp only [Act.put, List.setIfInBounds_toArray, List.set_cons_zero, List.set_cons_succ]
              refine wpAnyG_take (i := 8) (oi := _) (v := .int .i64 (r : Int)) rfl (by kernel_rfl) (by kernel_rfl) (by kernel_rfl) (by kernel_rfl) (by kernel_rfl) (by decide) (fun _ _ _ h => h) (by rfl) (fun w' hw' => ?_) hS ?_
              · obtain ⟨h1, h2, h3, h4, h5, h6⟩ := hw'
                go_simp
              try simp only [Act.put, List.setIfInBounds_toArray, List.set_cons_zero, List.set_cons_succ]
              refine wpAnyG_take (i := 9) (oi := _) (v := .int .i64 (j : Int)) rfl (by kernel_rfl) (by kernel_rfl) (by kernel_rfl) (by kernel_rfl) (by kernel_rfl) (by decide) (fun _ _ _ h => h) (by rfl) (fun w' hw' => ?_) hS ?_
              · obtain ⟨h1, h2, h3, h4, h5, h6⟩ := hw'
                go_simp
              try simp only [Act.put, List.setIfInBounds_toArray, List.set_cons_zero, List.set_cons_succ]
              refine wpAnyG_take (i := 10) (oi := _) (v := .slice (some ⟨gf, r * 6, none⟩) (j - r) (k - r)) rfl (by kernel_rfl) (by kernel_rfl) (by kernel_rfl) (by kernel_rfl) (by kernel_rfl) (by decide) (fun _ _ _ h => h) (by rfl) (fun w' hw' => ?_) hS ?_
              · obtain ⟨h1, h2, h3, h4, h5, h6⟩ := hw'
                go_simp
                exact fun h => absurd h (by omega)
              try simp only [Act.put, List.setIfInBounds_toArray, List.set_cons_zero, List.set_cons_succ]
              refine wpAnyG_take (i := 11) (oi := _) (v := .agg #[.int .i64 ls, .int .i64 le, .int .i64 sp]) rfl (by kernel_rfl) (by kernel_rfl) (by kernel_rfl) (by kernel_rfl) (by kernel_rfl) (by decide) (fun _ _ _ h => h) (by rfl) (fun w' hw' => ?_) hS ?_
              · obtain ⟨h1, h2, h3, h4, h5, h6⟩ := hw'
                go_simp
              try simp only [Act.put, List.setIfInBounds_toArray, List.set_cons_zero, List.set_cons_succ]
              refine wpAnyG_one (i := 12) (o := _) (by kernel_rfl) rfl (fun KK hK => ?_)
              go_simp
              refine (CC.out _ (Below.refl _ _).drew).mono ?_
              rintro e w5 ⟨rfl, q5⟩
              have q6 := Lib.hid (show Below wq.heap.size wq w5 from (Below.refl _ _).drew.trans q5)
              refine hK.out _ _ (fun _ => ⟨cellGr q6.out k5, cellGr q6.out cr, cellGr q6.out k4, cellGr q6.out s0, cellGr q6.out s1, cellGr q6.out s2⟩) ?_
              try simp only [Act.put, List.setIfInBounds_toArray, List.set_cons_zero, List.set_cons_succ]
              clear hK q5
              have cj := cellGr q6.out cj
              have fj := (HM.out.call q6.out).rr r (by omega)
              replace fj := fj.frozen j
              rw [hgr] at fj
              refine wpAnyG_one (i := 13) (o := _) (by kernel_rfl) rfl (fun KK hK => ?_)
              go_simp
              refine hK.out _ _ (fun h => absurd h (by decide)) ?_
              try simp only [Act.put, List.setIfInBounds_toArray, List.set_cons_zero, List.set_cons_succ]
              clear hK
              refine wpAnyG_one (i := 14) (o := _) (by kernel_rfl) rfl (fun KK hK => ?_)
              go_simp
              refine hK.out _ _ (fun h => absurd h (by decide)) ?_
              try simp only [Act.put, List.setIfInBounds_toArray, List.set_cons_zero, List.set_cons_succ]
              clear hK
              refine wpAnyG_done (by kernel_rfl) ?_ _
              have HM2 := Lib.hid (((HM.out.call q6.out).cost ND.out (i := r) (by omega) j (lnc (inO F k) le sp r j)))
              rw [hgr] at HM2
              have HW2 := Lib.hid (show ∀ q, q < j + 1 → upR D r (upF (D r) j (lnc (inO F k) le sp r j)) r q = cMat (inO F k) le sp r q from fun q hq => by
                unfold upR upF
                rw [if_pos rfl]
                by_cases e : q = j
                · rw [if_pos e, e]; unfold cMat; rw [if_pos (by omega)]
                · rw [if_neg e]; exact HW.out q (by omega))
              have HV2 := Lib.hid (show ∀ i, i < r → ∀ q, upR D r (upF (D r) j (lnc (inO F k) le sp r j)) i q = cMat (inO F k) le sp i q ∨ k < q from fun i hi q => by
                unfold upR
                rw [if_neg (by omega)]; exact HV.out i hi q)
              generalize upR D r (upF (D r) j (lnc (inO F k) le sp r j)) = D2 at *
              generalize hwv : w5.setCell ⟨gr, j, none⟩ (.int .i64 (lnc (inO F k) le sp r j)) = wv at *
              clear hwv HM HV HW k5 k4 s0 s1 s2 cr cj fj CC hS q6
              go_wp2_with fail
              go_roundw
              case rel => exact ⟨j + 1, by omega, by omega, by go_num, Lib.hid ⟨D2, HM2.out, HV2.out, HW2.out⟩⟩
              case measure => simp [intOf]; omega
            obtain rfl : j = k + 1 := by omega
            have d1 : decide ((((k + 1 : Nat) : Int)) ≤ (k : Int)) = false := decide_eq_false (by omega)
            have d2 : decide (((k : Int) + 1) ≤ (k : Int)) = false := decide_eq_false (by omega)
            have HE2 := Lib.hid (show ∃ gr D, SoM w p c k ls le sp gk gp gf gc (r + 1) (fun k => gi O k) (inO F k) gr D wq ∧ SoD w.heap.size gk gp gf gc (r + 1) gr ∧ ∀ i, i < r + 1 → ∀ j, D i j = cMat (inO F k) le sp i j ∨ k < j from by
              obtain ⟨D, a, b, c⟩ := HE.out
              refine ⟨gq, D, a, ND.out, fun i hi j => ?_⟩
              by_cases e : i = r
              · rw [e]
                by_cases l : j < k + 1
                · exact .inl (c j l)
                · exact .inr (by omega)
              · exact b i (by omega) j)
            clear HE
            go_wp2_with fail
            go_roundw
            case rel => exact ⟨r + 1, by omega, by go_num, HE2⟩
            case measure => simp [intOf]; omega
        obtain rfl : r = k := by omega
        have HE2 := Lib.hid (show ∃ gr D, SoM w p c r ls le sp gk gp gf gc r (fun k => gi O k) (inO F r) gr D wr ∧ SoD w.heap.size gk gp gf gc r gr ∧ ∀ i, i < r → ∀ j, D i j = cMat (inO F r) le sp i j ∨ r < j from HE.out)
        clear HE
        obtain ⟨gr, D, HM, HD2, HV⟩ := HE2.out
        have FIN := Lib.hid (show ∀ W', Fm (fun q => q = w.heap.size + 1 + 1) wr W' → NmR W' (some ⟨gp, 0, none⟩) r (gi O) ∧ FlR W' (some ⟨gf, 0, none⟩) r (inO F r) ∧ CoR W' (some ⟨gc, 0, none⟩) r (r + 1) (cMat (inO F r) le sp) ∧ Below w.heap.size w W' from fun W' f => by
          have px := HM.px.fm f (by have := HD2.p3; omega)
          have fx := HM.fx.fm f (by have := HD2.f3; omega)
          have cx := HM.cx.fm f (by have := HD2.c3; omega)
          refine ⟨px.nm, fx.fl (Nat.le_refl _), fun i hi => ⟨⟨gc, 0, none⟩, some ⟨gr i, 0, none⟩, r + 1, rfl, cx.lt, ?_, fun j hj => ?_⟩, fm_below HM.bl f (by omega) HM.rx.lt⟩
          · rw [add0, cx.cell hi]
            unfold rowS
            rw [if_pos hi]
          · have rr := (HM.rr i hi).fm f (by have := (HD2.rw i hi).1; omega)
            refine ⟨⟨gr i, 0, none⟩, rfl, rr.lt, ?_⟩
            rw [add0, rr.cell hj]
            rcases HV i hi j with e | e
            · rw [e]
            · omega)
        have GP := Lib.hid (show w.heap.size ≤ gp from by have := HD2.p3; omega)
        have k0 : wr.cell? ⟨gk, 0, none⟩ = some (.int .i64 ls) := HM.kx.cell (k := 0) (by decide)
        have k1 : wr.cell? ⟨gk, 1, none⟩ = some (.int .i64 le) := HM.kx.cell (k := 1) (by decide)
        have k2 : wr.cell? ⟨gk, 2, none⟩ = some (.int .i64 sp) := HM.kx.cell (k := 2) (by decide)
        have k3 : wr.cell? ⟨gk, 3, none⟩ = some (.slice (some ⟨gp, 0, none⟩) r r) := HM.kx.cell (k := 3) (by decide)
        have k4 : wr.cell? ⟨gk, 4, none⟩ = some (.slice (some ⟨gf, 0, none⟩) r r) := HM.kx.cell (k := 4) (by decide)
        have k5 : wr.cell? ⟨gk, 5, none⟩ = some (.slice (some ⟨gc, 0, none⟩) r r) := HM.kx.cell (k := 5) (by decide)
        have r0 : wr.cell? ⟨w.heap.size + 1 + 1, 0, none⟩ = some (.int .i64 0) := HM.rx.cell (k := 0) (by decide)
        have r1 : wr.cell? ⟨w.heap.size + 1 + 1, 1, none⟩ = some (.int .i64 0) := HM.rx.cell (k := 1) (by decide)
        have r2 : wr.cell? ⟨w.heap.size + 1 + 1, 2, none⟩ = some (.int .i64 0) := HM.rx.cell (k := 2) (by decide)
        have r3 : wr.cell? ⟨w.heap.size + 1 + 1, 3, none⟩ = some (.slice none 0 0) := HM.rx.cell (k := 3) (by decide)
        have r4 : wr.cell? ⟨w.heap.size + 1 + 1, 4, none⟩ = some (.slice none 0 0) := HM.rx.cell (k := 4) (by decide)
        have r5 : wr.cell? ⟨w.heap.size + 1 + 1, 5, none⟩ = some (.slice none 0 0) := HM.rx.cell (k := 5) (by decide)
        have f0 := HM.rx.frozen 0
        have f1 := HM.rx.frozen 1
        have f2 := HM.rx.frozen 2
        have f3 := HM.rx.frozen 3
        have f4 := HM.rx.frozen 4
        have f5 := HM.rx.frozen 5
        have RC := Lib.hid (show (((((((wr.setCell ⟨w.heap.size + 1 + 1, 0, none⟩ (.int .i64 ls)).setCell ⟨w.heap.size + 1 + 1, 1, none⟩ (.int .i64 le)).setCell ⟨w.heap.size + 1 + 1, 2, none⟩ (.int .i64 sp)).setCell ⟨w.heap.size + 1 + 1, 3, none⟩ (.slice (some ⟨gp, 0, none⟩) r r)).setCell ⟨w.heap.size + 1 + 1, 4, none⟩ (.slice (some ⟨gf, 0, none⟩) r r)).setCell ⟨w.heap.size + 1 + 1, 5, none⟩ (.slice (some ⟨gc, 0, none⟩) r r))).heap[w.heap.size + 1 + 1]? = some (.cells #[.int .i64 ls, .int .i64 le, .int .i64 sp, .slice (some ⟨gp, 0, none⟩) r r, .slice (some ⟨gf, 0, none⟩) r r, .slice (some ⟨gc, 0, none⟩) r r] 67 (0, 0)) from
          ((((((HM.rx.set 0 (.int .i64 ls)).set 1 (.int .i64 le)).set 2 (.int .i64 sp)).set 3 (.slice (some ⟨gp, 0, none⟩) r r)).set 4 (.slice (some ⟨gf, 0, none⟩) r r)).set 5 (.slice (some ⟨gc, 0, none⟩) r r)))
        clear HM HD2 HV HE2
        go_wp2_with fail
        have FF := Lib.hid (show Fm (fun q => q = w.heap.size + 1 + 1) wr ((((((wr.setCell ⟨w.heap.size + 1 + 1, 0, none⟩ (.int .i64 ls)).setCell ⟨w.heap.size + 1 + 1, 1, none⟩ (.int .i64 le)).setCell ⟨w.heap.size + 1 + 1, 2, none⟩ (.int .i64 sp)).setCell ⟨w.heap.size + 1 + 1, 3, none⟩ (.slice (some ⟨gp, 0, none⟩) r r)).setCell ⟨w.heap.size + 1 + 1, 4, none⟩ (.slice (some ⟨gf, 0, none⟩) r r)).setCell ⟨w.heap.size + 1 + 1, 5, none⟩ (.slice (some ⟨gc, 0, none⟩) r r)) from by
          have h : ∀ (W : World) (k : Nat) (v : Value), Fm (fun q => q = w.heap.size + 1 + 1) W (W.setCell ⟨w.heap.size + 1 + 1, k, none⟩ v) := fun W k v => Fm.set _ _ rfl
          exact (((((h _ _ _).trans (h _ _ _)).trans (h _ _ _)).trans (h _ _ _)).trans (h _ _ _)).trans (h _ _ _))
        (try simp only [Exit.inBlock, Exit.then])
        obtain ⟨q1, q2, q3, q4⟩ := FIN.out _ FF.out
        refine bodyPost_ret (results_cell_row rfl _ _ _ _ _ _ _ rfl RC.out Try.underlying67 rfl clSize) rfl ?_
        exact ⟨gp, gf, gc, rfl, by rw [HOO.out]; exact q1, q2, q3, q4, GP.out⟩
end Go.Proofs.Ytmdhmpfagekonaa
