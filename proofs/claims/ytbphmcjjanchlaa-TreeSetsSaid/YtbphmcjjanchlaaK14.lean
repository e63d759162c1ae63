/- Subtract. -/
import Derived.Test.YtbphmcjjanchlaaK12
import Derived.Test.YtbphmcjjanchlaaP3
import Derived.Deep.Cut
import Derived.Deep.CutRange
namespace Go.Proofs.Ytbphmcjjanchlaa.Mii
open Go.RowKit
set_option linter.unusedVariables false
set_option linter.unusedSimpArgs false

structure SubQ (a b t : Tr Int Value) : Prop where
  avl : t.Avl
  v : SubT a.rows b.rows t.rows
  sz : t.sz ≤ a.sz
set_option maxRecDepth 100000 in
set_option maxHeartbeats 2000000 in
theorem subtract_n1 (q : Option Addr) (b : Tr Int Value) (w : World) (hb : At w q b) (vb : b.Avl) (sb : Asc b.rows) :
    Calls Try.prog 34 #[.agg #[.pointer none], .agg #[.pointer q]] w (MapR w (SubQ .nil b)) := by
  have T := Lib.hid (show At w none (.nil : Tr Int Value) from rfl)
  have FIN : Hid (∀ W, (((w.alloc (Obj.cells #[Value.pointer none] 35)).alloc (Obj.cells #[Value.pointer q] 35)).alloc (Obj.cells #[Value.pointer none] 35)) = W → MapR w (SubQ .nil b) (.returned (.agg #[.pointer none])) W) := Lib.hid (fun W e => by
    subst e
    exact ⟨none, .nil, rfl, ((T.out.alloc _).alloc _).alloc _, ⟨trivial, sub_nil1, by simp [Tr.sz]⟩, (((Below.refl _ w).alloc (Nat.le_refl _) _).alloc (by simp) _).alloc (by simp; omega) _⟩)
  clear T
  go_enter Try.func34, Try.ntmps34
  go_wp2_with fail
  exact bodyPost_ret (v := .agg #[.pointer none]) (by simp [results, Try.results34, go_sem]) rfl (FIN.out _ rfl)
set_option maxRecDepth 100000 in
set_option maxHeartbeats 2000000 in
theorem subtract_n2 (c : Nat) (a : Tr Int Value) (w : World) (ha : At w (some ⟨c, 0, none⟩) a) (va : a.Avl) (sa : Asc a.rows) :
    Calls Try.prog 34 #[.agg #[.pointer (some ⟨c, 0, none⟩)], .agg #[.pointer none]] w (MapR w (SubQ a .nil)) := by
  have T := Lib.hid ha
  have FIN : Hid (∀ W, (((w.alloc (Obj.cells #[Value.pointer (some ⟨c, 0, none⟩)] 35)).alloc (Obj.cells #[Value.pointer none] 35)).alloc (Obj.cells #[Value.pointer (some ⟨c, 0, none⟩)] 35)) = W → MapR w (SubQ a .nil) (.returned (.agg #[.pointer (some ⟨c, 0, none⟩)])) W) := Lib.hid (fun W e => by
    subst e
    exact ⟨(some ⟨c, 0, none⟩), a, rfl, ((T.out.alloc _).alloc _).alloc _, ⟨va, sub_nil2 sa, by simp⟩, (((Below.refl _ w).alloc (Nat.le_refl _) _).alloc (by simp) _).alloc (by simp; omega) _⟩)
  clear T
  go_enter Try.func34, Try.ntmps34
  go_wp2_with fail
  exact bodyPost_ret (v := .agg #[.pointer (some ⟨c, 0, none⟩)]) (by simp [results, Try.results34, go_sem]) rfl (FIN.out _ rfl)
set_option maxRecDepth 100000 in
set_option maxHeartbeats 2000000 in
theorem subtract_b (c b : Nat) (a l r : Tr Int Value) (pl pr : Option Addr) (kn : Int) (u : Value) (w : World) (hu : u.oneCell' = true) (ha : At w (some ⟨c, 0, none⟩) a) (m1 : w.cell? ⟨b, 0, none⟩ = some (.int .i64 kn)) (m2 : w.cell? ⟨b, 1, none⟩ = some u) (m3 : w.cell? ⟨b, 2, none⟩ = some (.pointer pl)) (m4 : w.cell? ⟨b, 3, none⟩ = some (.pointer pr)) (hl : At w pl l) (hr : At w pr r) (va : a.Avl) (sa : Asc a.rows) (vb : Tr.Avl (.node kn u l r)) (sb : Asc (Tr.node kn u l r).rows) (hz : a.sz + Tr.sz (.node kn u l r) ≤ 2 ^ 57) (IL : Hid (∀ (x y : Option Addr) (a' : Tr Int Value) (W : World), At W x a' → At W y l → a'.Avl → Asc a'.rows → a'.sz + l.sz ≤ 2 ^ 57 → Calls Try.prog 34 #[.agg #[.pointer x], .agg #[.pointer y]] W (MapR W (SubQ a' l)))) (IR : Hid (∀ (x y : Option Addr) (a' : Tr Int Value) (W : World), At W x a' → At W y r → a'.Avl → Asc a'.rows → a'.sz + r.sz ≤ 2 ^ 57 → Calls Try.prog 34 #[.agg #[.pointer x], .agg #[.pointer y]] W (MapR W (SubQ a' r)))) :
    Calls Try.prog 34 #[.agg #[.pointer (some ⟨c, 0, none⟩)], .agg #[.pointer (some ⟨b, 0, none⟩)]] w (MapR w (SubQ a (.node kn u l r))) := by
  have hb : b < w.heap.size := World.block_lt_of_cell? w _ m1
  have hb1 : b < w.heap.size + 1 := by omega
  have hb2 : b < w.heap.size + 1 + 1 := by omega
  have HN : Hid (IsKV kn (.int .i64 kn : Value) u) := ⟨rfl, hu⟩
  have TA := Lib.hid ha
  have TL := Lib.hid hl
  have TR := Lib.hid hr
  have VB := Lib.hid vb
  have SB := Lib.hid sb
  have HZ := Lib.hid hz
  have LS := Lib.hid (fun W hW => Split_any (some ⟨c, 0, none⟩) a kn W hW va sa (by omega))
  clear ha hl hr va sa vb sb hz hu
  have HB := Lib.hid (box3j w (some ⟨c, 0, none⟩) (some ⟨b, 0, none⟩))
  go_enter Try.func34, Try.ntmps34
  go_wp2_with fail
  generalize e2 : (((w.alloc (Obj.cells #[Value.pointer (some ⟨c, 0, none⟩)] 35)).alloc (Obj.cells #[Value.pointer (some ⟨b, 0, none⟩)] 35)).alloc (Obj.cells #[Value.pointer none] 35)) = w0
  obtain ⟨k1, k2, k3, f3, sz, bel⟩ := HB.out w0 e2
  have BL := Lib.hid bel
  replace TA := Lib.hid (TA.out.below bel (Nat.le_refl _))
  replace TL := Lib.hid (TL.out.below bel (Nat.le_refl _))
  replace TR := Lib.hid (TR.out.below bel (Nat.le_refl _))
  replace m1 := cell_gr bel m1
  replace m2 := cell_gr bel m2
  replace m3 := cell_gr bel m3
  replace m4 := cell_gr bel m4
  clear HB e2 bel
  have szo := sz
  have ne0 : ¬ w0.heap.size = w0.heap.size + 1 := by omega
  have ne1 : ¬ w0.heap.size + 1 = w0.heap.size := by omega
  go_upto_region 4 with fail
  go_cut [6, 7, 8, 9] from 21 to 32 (fun b1 _ fv b2 wx => ∃ B1 B2 x1 x2 lo hi xv f, b1 = .pointer (some ⟨B1, 0, none⟩) ∧ b2 = .pointer (some ⟨B2, 0, none⟩) ∧ fv = .bool f ∧ Hid (TwoB w0 x1 x2 lo hi B1 B2 wx) ∧ Hid (SplQ a kn lo hi xv f))
  case first =>
    go_region_held3 (fun w' => w'.cell? ⟨w.heap.size, 0, none⟩ = some (.pointer (some ⟨c, 0, none⟩)) ∧ w'.cell? ⟨b, 0, none⟩ = some (.int .i64 kn))
      (first | exact ⟨k1, m1⟩ | exact ⟨cell_dr k1, cell_dr m1⟩ | exact ⟨cell_al _ k1, cell_al _ m1⟩ | exact ⟨cell_al _ (cell_dr k1), cell_al _ (cell_dr m1)⟩ | exact ⟨cell_al _ (cell_al _ k1), cell_al _ (cell_al _ m1)⟩ | exact ⟨cell_st (by dsimp only; omega) k1, cell_st (by dsimp only; omega) m1⟩ | exact ⟨cell_st (by dsimp only; omega) (cell_dr k1), cell_st (by dsimp only; omega) (cell_dr m1)⟩ | exact ⟨cell_al _ (cell_st (by dsimp only; omega) k1), cell_al _ (cell_st (by dsimp only; omega) m1)⟩ | exact ⟨cell_st (by dsimp only; omega) (cell_st (by dsimp only; omega) k1), cell_st (by dsimp only; omega) (cell_st (by dsimp only; omega) m1)⟩)
      (first
        | (go_at_call 31; (with_reducible refine (LS.out _ (by first | exact TA.out | exact TA.out.drew | exact TA.out.alloc _ | exact (TA.out.alloc _).alloc _ | exact (TA.out.alloc _).drew | exact ((TA.out.alloc _).alloc _).drew)).mono ?_); rintro e w1 ⟨x1, u1, xv, f, x2, u2, rfl, a1, a2, g1, st0⟩; (first | (have hbh : Below w0.heap.size w0 w1 := st0; have st := hbh; clear hbh) | (have hbh : Below w0.heap.size w0 w1 := Below.of_dr st0; have st := hbh; clear hbh) | (have hbh := beh1 (w0 := w0) (w1 := w1) (Below.of_dr st0); obtain ⟨st, b0, bf0, bz0⟩ := hbh) | (have hbh := beh1 (w0 := w0) (w1 := w1) st0; obtain ⟨st, b0, bf0, bz0⟩ := hbh) | (have hbh := beh2 (w0 := w0) (w1 := w1) (Below.of_dr st0); obtain ⟨st, b0, bf0, bz0, b1, bf1, bz1⟩ := hbh) | (have hbh := beh2 (w0 := w0) (w1 := w1) st0; obtain ⟨st, b0, bf0, bz0, b1, bf1, bz1⟩ := hbh) | fail); replace k1 := cell_gr st k1; replace k2 := cell_gr st k2; replace k3 := cell_gr st k3; replace m1 := cell_gr st m1; replace m2 := cell_gr st m2; replace m3 := cell_gr st m3; replace m4 := cell_gr st m4; have sz1 := Nat.lt_of_lt_of_le sz st.size; have st2 := Lib.hid st; have G1 := Lib.hid g1; have A1 := Lib.hid a1; have A2 := Lib.hid a2; clear st st0 g1 a1 a2))
    all_goals
      clear TA TL TR VB SB HZ LS HN IL IR BL
      go_wp2_with fail
      go_meet
      first
        | exact ⟨_, _, _, _, _, _, _, _, rfl, rfl, rfl, Lib.hid (two_1 _ _ st2.out A1.out A2.out), G1⟩
        | exact ⟨_, _, _, _, _, _, _, _, rfl, rfl, rfl, Lib.hid (two_2 _ _ st2.out A1.out A2.out), G1⟩
        | exact ⟨_, _, _, _, _, _, _, _, rfl, rfl, rfl, Lib.hid (two_3 _ (Nat.le_refl _) st2.out A1.out A2.out b0), G1⟩
        | exact ⟨_, _, _, _, _, _, _, _, rfl, rfl, rfl, Lib.hid (two_4 _ (Nat.le_refl _) st2.out A1.out A2.out b0), G1⟩
        | exact ⟨_, _, _, _, _, _, _, _, rfl, rfl, rfl, Lib.hid (two_5 (Nat.le_refl _) (Nat.le_succ _) (by omega) st2.out A1.out A2.out b0 b1), G1⟩
        | exact ⟨_, _, _, _, _, _, _, _, rfl, rfl, rfl, Lib.hid (two_5 (Nat.le_succ _) (Nat.le_refl _) (by omega) st2.out A1.out A2.out b1 b0), G1⟩
        | exact ⟨_, _, _, _, _, _, _, _, rfl, rfl, rfl, Lib.hid (TwoB.drew (two_1 _ _ st2.out A1.out A2.out)), G1⟩
        | exact ⟨_, _, _, _, _, _, _, _, rfl, rfl, rfl, Lib.hid (TwoB.drew (two_2 _ _ st2.out A1.out A2.out)), G1⟩
        | exact ⟨_, _, _, _, _, _, _, _, rfl, rfl, rfl, Lib.hid (TwoB.drew (two_3 _ (Nat.le_refl _) st2.out A1.out A2.out b0)), G1⟩
        | exact ⟨_, _, _, _, _, _, _, _, rfl, rfl, rfl, Lib.hid (TwoB.drew (two_4 _ (Nat.le_refl _) st2.out A1.out A2.out b0)), G1⟩
        | exact ⟨_, _, _, _, _, _, _, _, rfl, rfl, rfl, Lib.hid (TwoB.drew (two_5 (Nat.le_refl _) (Nat.le_succ _) (by omega) st2.out A1.out A2.out b0 b1)), G1⟩
        | exact ⟨_, _, _, _, _, _, _, _, rfl, rfl, rfl, Lib.hid (TwoB.drew (two_5 (Nat.le_succ _) (Nat.le_refl _) (by omega) st2.out A1.out A2.out b1 b0)), G1⟩
  case rest =>
    obtain ⟨B1, B2, x1, x2, lo, hi, xv, f, rfl, rfl, rfl, TW, G1⟩ := hcut
    have bel := TW.out.bel
    have y1 := TW.out.z1
    have y2 := TW.out.z2
    have c7 := TW.out.c1
    have c8 := TW.out.c2
    have TLo := Lib.hid TW.out.al
    have THi := Lib.hid TW.out.ah
    have st : Below w0.heap.size w0 wc := (by first | exact bel | exact Below.of_dr bel)
    replace f3 := fro_gr st k3 f3
    replace k1 := cell_gr st k1
    replace k2 := cell_gr st k2
    replace k3 := cell_gr st k3
    replace m1 := cell_gr st m1
    replace m2 := cell_gr st m2
    replace m3 := cell_gr st m3
    replace m4 := cell_gr st m4
    replace TL := Lib.hid (TL.out.grow st)
    replace TR := Lib.hid (TR.out.grow st)
    replace BL := Lib.hid (BL.out.trans (st.mono BL.out.size))
    replace sz := Nat.lt_of_lt_of_le sz st.size
    clear st bel
    have s0 : w.heap.size + 1 + 1 < w0.heap.size := szo
    clear szo TW LS TA
    go_wp2_with fail
    go_region_held3 (fun w' => w'.cell? ⟨B1, 0, none⟩ = some (.pointer x1) ∧ w'.cell? ⟨B2, 0, none⟩ = some (.pointer x2) ∧ w'.cell? ⟨b, 2, none⟩ = some (.pointer pl) ∧ w'.cell? ⟨b, 3, none⟩ = some (.pointer pr))
      (first | exact ⟨c7, c8, m3, m4⟩ | exact ⟨cell_dr c7, cell_dr c8, cell_dr m3, cell_dr m4⟩ | exact ⟨cell_al _ c7, cell_al _ c8, cell_al _ m3, cell_al _ m4⟩ | exact ⟨cell_al _ (cell_dr c7), cell_al _ (cell_dr c8), cell_al _ (cell_dr m3), cell_al _ (cell_dr m4)⟩ | exact ⟨cell_al _ (cell_al _ c7), cell_al _ (cell_al _ c8), cell_al _ (cell_al _ m3), cell_al _ (cell_al _ m4)⟩ | exact ⟨cell_st (by dsimp only; omega) c7, cell_st (by dsimp only; omega) c8, cell_st (by dsimp only; omega) m3, cell_st (by dsimp only; omega) m4⟩ | exact ⟨cell_st (by dsimp only; omega) (cell_dr c7), cell_st (by dsimp only; omega) (cell_dr c8), cell_st (by dsimp only; omega) (cell_dr m3), cell_st (by dsimp only; omega) (cell_dr m4)⟩ | exact ⟨cell_al _ (cell_st (by dsimp only; omega) c7), cell_al _ (cell_st (by dsimp only; omega) c8), cell_al _ (cell_st (by dsimp only; omega) m3), cell_al _ (cell_st (by dsimp only; omega) m4)⟩ | exact ⟨cell_st (by dsimp only; omega) (cell_st (by dsimp only; omega) c7), cell_st (by dsimp only; omega) (cell_st (by dsimp only; omega) c8), cell_st (by dsimp only; omega) (cell_st (by dsimp only; omega) m3), cell_st (by dsimp only; omega) (cell_st (by dsimp only; omega) m4)⟩)
      (first
        | (go_at_call 34; (with_reducible refine (IL.out x1 pl lo _ (by first | exact TLo.out | exact TLo.out.drew) (by first | exact TL.out | exact TL.out.drew) G1.out.al G1.out.slo.asc (by have z := HZ.out; have g := G1.out.sz; simp only [Tr.sz] at z; omega)).mono ?_); rintro e w1 ⟨r1, v1, rfl, e1, h1, st0⟩; have st : Below wc.heap.size wc w1 := (by first | exact st0 | exact Below.of_dr st0); replace f3 := fro_gr st k3 f3; replace k1 := cell_gr st k1; replace k2 := cell_gr st k2; replace k3 := cell_gr st k3; replace m1 := cell_gr st m1; replace m2 := cell_gr st m2; replace m3 := cell_gr st m3; replace m4 := cell_gr st m4; replace c7 := cell_gr st c7; replace c8 := cell_gr st c8; replace TL := Lib.hid (TL.out.grow st); replace TR := Lib.hid (TR.out.grow st); replace TLo := Lib.hid (TLo.out.grow st); replace THi := Lib.hid (THi.out.grow st); replace BL := Lib.hid (BL.out.trans (st.mono BL.out.size)); replace sz := Nat.lt_of_lt_of_le sz st.size; clear st st0; have E1 := Lib.hid e1; clear e1; have H1 := Lib.hid h1; clear h1)
        | (go_at_call 34; (with_reducible refine (IR.out x2 pr hi _ (by first | exact THi.out | exact THi.out.drew) (by first | exact TR.out | exact TR.out.drew) G1.out.ah G1.out.shi.asc (by have z := HZ.out; have g := G1.out.sz; simp only [Tr.sz] at z; omega)).mono ?_); rintro e w2 ⟨r2, v2, rfl, e2, h2, st0⟩; have st : Below w1.heap.size w1 w2 := (by first | exact st0 | exact Below.of_dr st0); replace f3 := fro_gr st k3 f3; replace k1 := cell_gr st k1; replace k2 := cell_gr st k2; replace k3 := cell_gr st k3; replace m1 := cell_gr st m1; replace m2 := cell_gr st m2; replace m3 := cell_gr st m3; replace m4 := cell_gr st m4; replace c7 := cell_gr st c7; replace c8 := cell_gr st c8; replace TL := Lib.hid (TL.out.grow st); replace TR := Lib.hid (TR.out.grow st); replace TLo := Lib.hid (TLo.out.grow st); replace THi := Lib.hid (THi.out.grow st); replace E1 := Lib.hid (E1.out.grow st); replace BL := Lib.hid (BL.out.trans (st.mono BL.out.size)); replace sz := Nat.lt_of_lt_of_le sz st.size; clear st st0; have E2 := Lib.hid e2; clear e2; have H2 := Lib.hid h2; clear h2)
        | (go_at_call 72; (with_reducible refine (chain_any r1 r2 v1 v2 _ (by first | exact E1.out | exact E1.out.drew) (by first | exact E2.out | exact E2.out.drew) H1.out.avl H2.out.avl H2.out.v.asc (by have z := HZ.out; have g := G1.out.sz; have p := H1.out.sz; have q := H2.out.sz; simp only [Tr.sz] at z; omega)).mono ?_); rintro e w3 ⟨r3, v3, rfl, e3, h3, st0⟩; have st : Below w2.heap.size w2 w3 := (by first | exact st0 | exact Below.of_dr st0); replace f3 := fro_gr st k3 f3; replace k1 := cell_gr st k1; replace k2 := cell_gr st k2; replace k3 := cell_gr st k3; replace m1 := cell_gr st m1; replace m2 := cell_gr st m2; replace m3 := cell_gr st m3; replace m4 := cell_gr st m4; replace c7 := cell_gr st c7; replace c8 := cell_gr st c8; replace TL := Lib.hid (TL.out.grow st); replace TR := Lib.hid (TR.out.grow st); replace TLo := Lib.hid (TLo.out.grow st); replace THi := Lib.hid (THi.out.grow st); replace E1 := Lib.hid (E1.out.grow st); replace E2 := Lib.hid (E2.out.grow st); replace BL := Lib.hid (BL.out.trans (st.mono BL.out.size)); replace sz := Nat.lt_of_lt_of_le sz st.size; clear st st0; have E3 := Lib.hid e3; clear e3; have H3 := Lib.hid h3; clear h3))
    have FIN := Lib.hid (MapR.set (c := w.heap.size + 1 + 1) (Q := SubQ a (.node kn u l r)) (.pointer r3) k3 E3.out ⟨H3.out.2, by rw [H3.out.1]; exact sub_node SB.out G1.out.slo G1.out.shi H1.out.v H2.out.v, by have g := G1.out.sz; have p := H1.out.sz; have q := H2.out.sz; have h := H3.out.sz; omega⟩ BL.out (by omega))
    clear TL TR TLo THi E1 E2 E3 H1 H2 H3 G1 BL HN HZ SB VB IL IR
    go_wp2_with fail
    exact bodyPost_ret (v := .agg #[.pointer r3]) (by simp [results, Try.results34, go_sem, k3, sz]) rfl (by first | exact FIN.out | exact ⟨_, _, rfl, (FIN.out).drew⟩)
theorem subtract_all : ∀ (b : Tr Int Value), b.Avl → Asc b.rows → ∀ (p q : Option Addr) (a : Tr Int Value) (w : World), At w p a → At w q b → a.Avl → Asc a.rows → a.sz + b.sz ≤ 2 ^ 57 →
    Calls Try.prog 34 #[.agg #[.pointer p], .agg #[.pointer q]] w (MapR w (SubQ a b)) := by
  intro b
  induction b with
  | nil =>
    intro vb sb p q a w ha hb va sa hz
    obtain rfl : q = none := hb
    cases a with
    | nil => obtain rfl : p = none := ha; exact subtract_n1 none .nil w rfl vb sb
    | node ka ua la ra =>
      have h := ha
      obtain ⟨c, _, _, rfl, _⟩ := ha
      exact subtract_n2 c _ w h va sa
  | node kn u l r ihl ihr =>
    intro vb sb p q a w ha hb va sa hz
    cases a with
    | nil => obtain rfl : p = none := ha; exact subtract_n1 q _ w hb vb sb
    | node ka ua la ra =>
      have h := ha
      obtain ⟨c, _, _, rfl, _⟩ := ha
      obtain ⟨b, pl, pr, rfl, c0, c1, c2, c3, _, _, ov, hl, hr⟩ := hb
      have V := vb
      simp only [Tr.Avl] at V
      have S := asc_node.1 sb
      exact subtract_b c b _ l r pl pr kn u w ov h c0 c1 c2 c3 hl hr va sa vb sb hz (Lib.hid (fun x y a' W h1 h2 v1 s1 z1 => ihl V.1 S.1 x y a' W h1 h2 v1 s1 z1)) (Lib.hid (fun x y a' W h1 h2 v1 s1 z1 => ihr V.2.1 S.2.1 x y a' W h1 h2 v1 s1 z1))
theorem Subtract_any (p q : Option Addr) (a b : Tr Int Value) (w : World) (ha : At w p a) (hb : At w q b) (va : a.Avl) (vb : b.Avl) (sa : Asc a.rows) (sb : Asc b.rows) (hz : a.sz + b.sz ≤ 2 ^ 57) :
    Calls Try.prog 34 #[.agg #[.pointer p], .agg #[.pointer q]] w (MapR w (SubQ a b)) := subtract_all b vb sb p q a w ha hb va sa hz
end Go.Proofs.Ytbphmcjjanchlaa.Mii
