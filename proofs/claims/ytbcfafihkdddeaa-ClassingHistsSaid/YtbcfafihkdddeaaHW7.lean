/- Several texts in one: HV4 HV5 HV6. -/
import Derived.Test.YtbcfafihkdddeaaHW2
import Derived.Test.YtbcfafihkdddeaaHW6
import Derived.Test.YtbcfafihkdddeaaHW5
import Derived.BigRegion
import Derived.Deep.RegionHeld3
import Derived.Deep.RegionLaw
import Derived.Deep.QuietTactic

/- Classing: Micron and Variance, the reference's. -/
namespace Go.Proofs.Ytbcfafihkdddeaa
open Go.RowKit
set_option linter.unusedVariables false
set_option linter.unusedSimpArgs false

theorem rnd_p {N : Nat} (X Y mode : Int) (s t u : Bool) (hs : s = decide (X < 0)) (ht : t = decide (Y < 0)) (hu : u = decide (rz X Y mode < 0)) (p q : Option Addr) (c d : Nat) (l m : List Int) (w : World) (A : BigR N w p l X) (B : BigR N w q m Y) (hY : 0 < Y) (m0 : 0 ≤ mode) (m4 : mode ≤ 4) (hN : N ≤ 70000) :
    Calls Try.prog 63 #[.agg #[.bool s, .slice p l.length c], .agg #[.bool t, .slice q m.length d], .int .i64 mode] w (BigS (N + 6) (rz X Y mode) u w) := by
  subst hs ht
  exact (Rounded_pos p q c d l m X Y mode w A B hY m0 m4 hN).mono fun _ _ h => h.s hu
theorem win_p {N : Nat} (x most : Int) (s : Bool) (hs : s = decide (x < 0)) (p : Option Addr) (c : Nat) (l : List Int) (h0 : 0 ≤ most) (hm : most ≤ 4611686018427387904) (hx : (x.natAbs : Int) ≤ most) (w : World) (A : BigR N w p l x) (hN : N ≤ 90000) :
    Calls Try.prog 62 #[.agg #[.bool s, .slice p l.length c], .int .i64 most] w fun e w' => e = .returned (.tuple #[.int .i64 x, .bool true]) ∧ Below w.heap.size w w' := by
  subst hs
  have := Within_any p c l x most h0 hm w A hN
  unfold wiV wiB at this
  rw [if_pos hx, decide_eq_true hx] at this
  exact this
theorem rz_hev {p d : Int} (hp : 0 ≤ p) (hd : 1 ≤ d) : rz p d 4 = hev p d := by
  have := rz_rnd false p d 4 hp hd (by omega) (by omega)
  simpa [hev] using this
/-- A whole number's box. -/
structure BoxU (g : Nat) (s : Bool) (p : Option Addr) (n c : Nat) (W : World) : Prop where
  sz : g < W.heap.size
  a0 : W.cell? ⟨g, 0, none⟩ = some (.bool s)
  a1 : W.cell? ⟨g, 1, none⟩ = some (.slice p n c)
theorem BoxU.below {g : Nat} {s : Bool} {p : Option Addr} {n c : Nat} {W W' : World} (h : BoxU g s p n c W) (hb : Below W.heap.size W W') : BoxU g s p n c W' := by
  obtain ⟨h1, h2, h3⟩ := h
  exact ⟨Nat.lt_of_lt_of_le h1 hb.size, (hb.cell (p := ⟨g, 0, none⟩) h1).trans h2, (hb.cell (p := ⟨g, 1, none⟩) h1).trans h3⟩
theorem BoxU.new (W : World) (s : Bool) (p : Option Addr) (n c : Nat) : BoxU W.heap.size s p n c (W.alloc (Obj.cells #[Value.bool s, Value.slice p n c] 89)) := by
  refine ⟨?_, ?_, ?_⟩ <;> simp [go_sem]

set_option maxRecDepth 100000 in
set_option maxHeartbeats 8000000 in
theorem rMicron_any (H : Nat → Int) (w : World) :
    Calls Try.prog 16 #[hV H] w fun e w' => ∃ z x, e = .returned (.tuple #[.int .i64 z, .int .i64 x]) ∧ MicQ H z x ∧ Below w.heap.size w w' := by
  have CF := Lib.hid (fun W => rfirst_any H W)
  have CM := Lib.hid (fun (ok : HOk H 64) W => rmoments_any H ok W)
  have BD := Lib.hid (HB.alloc w H)
  go_enter Try.func16, Try.ntmps16
  go_upto_region 1 with fail
  generalize w.alloc (Obj.cells (hC H) 23) = w1 at *
  obtain ⟨g, hg⟩ : ∃ g, g = w.heap.size := ⟨_, rfl⟩
  have KH := Lib.hid (show HB w1 g H from by rw [hg]; exact BD.out.1)
  have KB := Lib.hid BD.out.2
  rw [← hg]
  clear hg BD
  go_wp2_with (refine wpList_load_row rfl _ _ rfl g rfl _ (hC H) (0, 0) _ KH.out Try.underlying23 rfl (histSize' H) ?_)
  refine (CF.out w1).mono ?_
  rintro e w2 ⟨n, x, rfl, fq, st⟩
  have FQ := Lib.hid fq
  replace KH := Lib.hid (KH.out.below st)
  replace KB := Lib.hid (KB.out.trans (st.mono KB.out.size))
  clear st fq CF
  by_cases x0 : x = 0
  case neg =>
    have x1 : (x == 0) = false := by simpa using x0
    have x2 : (x != 0) = true := by simpa using x0
    have FF := Lib.hid (show MicQ H 0 x from by
      rcases FQ.out with ⟨a, b, _⟩ | ⟨a, b, c, _⟩ | ⟨_, _, a, _⟩
      · exact .inl ⟨a, b, rfl⟩
      · exact .inr (.inl ⟨a, b, c, rfl⟩)
      · exact absurd a x0)
    clear x0 CM FQ
    go_wp2_with fail
    go_ret2
    exact ⟨0, x, rfl, FF.out, KB.out⟩
  subst x0
  obtain ⟨ok, n0, hn⟩ : HOk H 64 ∧ 0 < hsum H 64 ∧ n = hsum H 64 := by
    rcases FQ.out with ⟨_, a, _⟩ | ⟨_, _, a, _⟩ | ⟨a, b, _, c⟩
    · omega
    · omega
    · exact ⟨a, b, c⟩
  have OK := Lib.hid ok
  have S1 := ok.2
  have MB := hmom_bd (n := 64) (by omega) ok
  have CM2 := Lib.hid (CM.out ok)
  have x1 : ((0 : Int) == 0) = true := by decide
  have x2 : ((0 : Int) != 0) = false := by decide
  clear CM FQ
  have FF := Lib.hid (show MicQ H (hev (hmom H 64 * 100) (hsum H 64)) 0 from .inr (.inr ⟨ok, n0, rfl, rfl⟩))
  rw [← hn] at n0 S1 MB FF
  clear ok hn OK
  have RZ := rz_hev (p := hmom H 64 * 100) (d := n) (by omega) (by omega)
  have TW := hev_two (hmom H 64 * 100) n n0
  generalize hmom H 64 = M at *
  generalize hmom2 H 64 = M2 at *
  have qz : M * 100 / n ≤ 6300 := Int.ediv_le_of_le_mul n0 (by omega)
  have q0 : 0 ≤ M * 100 / n := Int.ediv_nonneg (by omega) (by omega)
  obtain ⟨N, hN⟩ : ∃ N, N = M * 100 := ⟨_, rfl⟩
  have wN : IntKind.i64.wrap (100 * M) = N := by rw [Int.mul_comm, ← hN]; exact hwI (by omega) (by omega)
  have wN2 : wrap64 (100 * M) = N := by rw [← IntWalk.i64_left]; exact wN
  rw [← hN] at FF RZ TW qz q0
  obtain ⟨Z, hZ⟩ : ∃ Z, Z = hev N n := ⟨_, rfl⟩
  rw [← hZ] at FF RZ TW
  have zb : 0 ≤ Z ∧ Z ≤ 6301 := by omega
  have hs1 : false = decide (N < 0) := (decide_eq_false (by omega)).symm
  have hs2 : false = decide (n < 0) := (decide_eq_false (by omega)).symm
  have hs3 : false = decide (rz N n 4 < 0) := by rw [RZ]; exact (decide_eq_false (by omega)).symm
  have hs4 : false = decide (Z < 0) := (decide_eq_false (by omega)).symm
  have OA := Lib.hid (fun W => of_s N false hs1 (by omega) (by omega) W)
  have OC := Lib.hid (fun W => of_s n false hs2 (by omega) (by omega) W)
  have RD := Lib.hid (fun p q e d l k W (A : BigR 5 W p l N) (B : BigR 5 W q k n) => rnd_p N n 4 false false false hs1 hs2 hs3 p q e d l k W A B n0 (by omega) (by omega) (by omega))
  rw [RZ] at RD
  have WI := Lib.hid (fun p e l W (A : BigR 11 W p l Z) => win_p Z 1125899906842624 false hs4 p e l (by omega) (by omega) (by omega) W A (by omega))
  clear hs1 hs2 hs3 hs4 RZ TW qz q0 zb MB hN hZ wN S1
  go_wp2_with (refine wpList_load_row rfl _ _ rfl g rfl _ (hC H) (0, 0) _ KH.out Try.underlying23 rfl (histSize' H) ?_)
  refine (CM2.out w2).mono ?_
  rintro e w3 ⟨rfl, st⟩
  replace KB := Lib.hid (KB.out.trans (st.mono KB.out.size))
  clear st CM2 KH
  go_wp2_with fail
  refine (OA.out _).mono ?_
  rintro e v1 ⟨p1, l1, c1, rfl, r1, -, r3⟩
  have X1 := Lib.hid r1
  replace KB := Lib.hid (KB.out.trans ((show Below _ _ v1 from by first | exact r3 | exact ((Below.refl _ _).drew).trans r3 | exact (below_drewN (Below.refl _ _) _).trans r3).mono KB.out.size))
  clear r1 r3
  go_wp2_with fail
  refine (OC.out _).mono ?_
  rintro e v2 ⟨p2, l2, c2, rfl, r1, -, r3⟩
  replace X1 := Lib.hid (X1.out.below (show Below _ _ v2 from by first | exact r3 | exact ((Below.refl _ _).drew).trans r3 | exact (below_drewN (Below.refl _ _) _).trans r3))
  have X2 := Lib.hid r1
  replace KB := Lib.hid (KB.out.trans ((show Below _ _ v2 from by first | exact r3 | exact ((Below.refl _ _).drew).trans r3 | exact (below_drewN (Below.refl _ _) _).trans r3).mono KB.out.size))
  clear r1 r3
  go_wp2_with fail
  refine (RD.out _ _ _ _ _ _ _ (by first | exact X1.out | exact X1.out.drew | exact X1.out.drewN _) (by first | exact X2.out | exact X2.out.drew | exact X2.out.drewN _)).mono ?_
  rintro e v3 ⟨p3, l3, c3, rfl, r1, -, r3⟩
  have X3 := Lib.hid r1
  replace KB := Lib.hid (KB.out.trans ((show Below _ _ v3 from by first | exact r3 | exact ((Below.refl _ _).drew).trans r3 | exact (below_drewN (Below.refl _ _) _).trans r3).mono KB.out.size))
  clear r1 r3
  go_wp2_with fail
  refine (WI.out _ _ _ _ (by first | exact X3.out | exact X3.out.drew | exact X3.out.drewN _)).mono ?_
  rintro e v4 ⟨rfl, r3⟩
  replace KB := Lib.hid (KB.out.trans ((show Below _ _ v4 from by first | exact r3 | exact ((Below.refl _ _).drew).trans r3 | exact (below_drewN (Below.refl _ _) _).trans r3).mono KB.out.size))
  clear r3 OA OC RD WI X1 X2 X3
  go_wp2_with fail
  go_ret2
  exact ⟨Z, 0, rfl, FF.out, KB.out⟩

set_option maxRecDepth 100000 in
set_option maxHeartbeats 8000000 in
theorem rVariance_any (H : Nat → Int) (w : World) :
    Calls Try.prog 18 #[hV H] w fun e w' => ∃ z x, e = .returned (.tuple #[.int .i64 z, .int .i64 x]) ∧ VarQ H z x ∧ Below w.heap.size w w' := by
  have CF := Lib.hid (fun W => rfirst_any H W)
  have CM := Lib.hid (fun (ok : HOk H 64) W => rmoments_any H ok W)
  have BD := Lib.hid (HB.alloc w H)
  go_enter Try.func18, Try.ntmps18
  go_upto_region 1 with fail
  generalize w.alloc (Obj.cells (hC H) 23) = w1 at *
  obtain ⟨g, hg⟩ : ∃ g, g = w.heap.size := ⟨_, rfl⟩
  have KH := Lib.hid (show HB w1 g H from by rw [hg]; exact BD.out.1)
  have KB := Lib.hid BD.out.2
  rw [← hg]
  clear hg BD
  go_wp2_with (refine wpList_load_row rfl _ _ rfl g rfl _ (hC H) (0, 0) _ KH.out Try.underlying23 rfl (histSize' H) ?_)
  refine (CF.out w1).mono ?_
  rintro e w2 ⟨n, x, rfl, fq, st⟩
  have FQ := Lib.hid fq
  replace KH := Lib.hid (KH.out.below st)
  replace KB := Lib.hid (KB.out.trans (st.mono KB.out.size))
  clear st fq CF
  by_cases x0 : x = 0
  case neg =>
    have x1 : (x == 0) = false := by simpa using x0
    have x2 : (x != 0) = true := by simpa using x0
    have FF := Lib.hid (show VarQ H 0 x from by
      rcases FQ.out with ⟨a, b, _⟩ | ⟨a, b, c, _⟩ | ⟨_, _, a, _⟩
      · exact .inl ⟨a, b, rfl⟩
      · exact .inr (.inl ⟨a, b, c, rfl⟩)
      · exact absurd a x0)
    clear x0 CM FQ
    go_wp2_with fail
    go_ret2
    exact ⟨0, x, rfl, FF.out, KB.out⟩
  subst x0
  obtain ⟨ok, n0, hn⟩ : HOk H 64 ∧ 0 < hsum H 64 ∧ n = hsum H 64 := by
    rcases FQ.out with ⟨_, a, _⟩ | ⟨_, _, a, _⟩ | ⟨a, b, _, c⟩
    · omega
    · omega
    · exact ⟨a, b, c⟩
  have OK := Lib.hid ok
  have S1 := ok.2
  have MB := hmom_bd (n := 64) (by omega) ok
  have CM2 := Lib.hid (CM.out ok)
  have x1 : ((0 : Int) == 0) = true := by decide
  have x2 : ((0 : Int) != 0) = false := by decide
  clear CM FQ
  have MB2 := hmom2_bd (n := 64) (by omega) ok
  have VB := hvar_bd ok
  have VE := Lib.hid (show hvar H = hsum H 64 * hmom2 H 64 - hmom H 64 * hmom H 64 from rfl)
  have FF := Lib.hid (show VarQ H (hev (hvar H * 100) (hsum H 64 * hsum H 64)) 0 from .inr (.inr ⟨ok, n0, rfl, rfl⟩))
  rw [← hn] at n0 S1 MB FF VB VE
  clear ok hn OK
  have nn0 : 0 < n * n := Int.mul_pos n0 n0
  have RZ := rz_hev (p := hvar H * 100) (d := n * n) (by omega) (by omega)
  have TW := hev_two (hvar H * 100) (n * n) nn0
  generalize hvar H = O at *
  generalize hmom H 64 = M at *
  generalize hmom2 H 64 = M2 at *
  have qz : O * 100 / (n * n) ≤ 99300 := Int.ediv_le_of_le_mul nn0 (by omega)
  have q0 : 0 ≤ O * 100 / (n * n) := Int.ediv_nonneg (by omega) (by omega)
  obtain ⟨Z, hZ⟩ : ∃ Z, Z = hev (O * 100) (n * n) := ⟨_, rfl⟩
  rw [← hZ] at FF RZ TW
  have zb : 0 ≤ Z ∧ Z ≤ 99301 := by omega
  have p0 : 0 ≤ n * M2 := Int.mul_nonneg (by omega) (by omega)
  have p1 : 0 ≤ M * M := Int.mul_nonneg (by omega) (by omega)
  have hsn : false = decide (n < 0) := (decide_eq_false (by omega)).symm
  have hsm : false = decide (M < 0) := (decide_eq_false (by omega)).symm
  have hsb : false = decide (M2 < 0) := (decide_eq_false (by omega)).symm
  have hnb : false = decide (n * M2 < 0) := (decide_eq_false (by omega)).symm
  have hmm : false = decide (M * M < 0) := (decide_eq_false (by omega)).symm
  have hnn : false = decide (n * n < 0) := (decide_eq_false (by omega)).symm
  have hso : false = decide (n * M2 - M * M < 0) := by rw [← VE.out]; exact (decide_eq_false (by omega)).symm
  have hO : false = decide (O < 0) := (decide_eq_false (by omega)).symm
  have hsc : false = decide ((100 : Int) < 0) := rfl
  have hos : false = decide (O * 100 < 0) := (decide_eq_false (by omega)).symm
  have hsz : false = decide (rz (O * 100) (n * n) 4 < 0) := by rw [RZ]; exact (decide_eq_false (by omega)).symm
  have hz : false = decide (Z < 0) := (decide_eq_false (by omega)).symm
  have ON := Lib.hid (fun W => of_s n false hsn (by omega) (by omega) W)
  have OB := Lib.hid (fun W => of_s M2 false hsb (by omega) (by omega) W)
  have OM := Lib.hid (fun W => of_s M false hsm (by omega) (by omega) W)
  have OC := Lib.hid (fun W => of_s 100 false hsc (by omega) (by omega) W)
  have TNB := Lib.hid (fun p q e d l k W (A : BigR 5 W p l n) (B : BigR 5 W q k M2) => times_s n M2 false false false hsn hsb hnb p q e d l k W A B (by omega) (by omega))
  have TMM := Lib.hid (fun p q e d l k W (A : BigR 5 W p l M) (B : BigR 5 W q k M) => times_s M M false false false hsm hsm hmm p q e d l k W A B (by omega) (by omega))
  have TNN := Lib.hid (fun p q e d l k W (A : BigR 5 W p l n) (B : BigR 5 W q k n) => times_s n n false false false hsn hsn hnn p q e d l k W A B (by omega) (by omega))
  have MI := Lib.hid (fun p q e d l k W (A : BigR (5 + 5) W p l (n * M2)) (B : BigR (5 + 5) W q k (M * M)) => minus_s (n * M2) (M * M) false false false hnb hmm hso p q e d l k W A B (by omega))
  rw [← VE.out] at MI
  have TOC := Lib.hid (fun p q e d l k L W (hl : l.length = L) (A : BigR (5 + 5 + 1) W p l O) (B : BigR 5 W q k 100) => show Calls Try.prog 66 #[.agg #[.bool false, .slice p L e], .agg #[.bool false, .slice q k.length d]] W (BigS (5 + 5 + 1 + 5) (O * 100) false W) from by rw [← hl]; exact times_s O 100 false false false hO hsc hos p q e d l k W A B (by omega) (by omega))
  have RD := Lib.hid (fun p q e d l k L W (hk : k.length = L) (A : BigR (5 + 5 + 1 + 5) W p l (O * 100)) (B : BigR (5 + 5 + 1 + 5) W q k (n * n)) => show Calls Try.prog 63 #[.agg #[.bool false, .slice p l.length e], .agg #[.bool false, .slice q L d], .int .i64 4] W (BigS (5 + 5 + 1 + 5 + 6) Z false W) from by rw [← hk, ← RZ]; exact rnd_p (O * 100) (n * n) 4 false false false hos hnn hsz p q e d l k W A B nn0 (by omega) (by omega) (by omega))
  have WI := Lib.hid (fun p e l W (A : BigR (5 + 5 + 1 + 5 + 6) W p l Z) => win_p Z 1125899906842624 false hz p e l (by omega) (by omega) (by omega) W A (by omega))
  clear hsn hsm hsb hnb hmm hnn hso hO hsc hos hsz hz RZ TW qz q0 zb MB MB2 VB VE p0 p1 S1 nn0 n0 hZ
  go_wp2_with (refine wpList_load_row rfl _ _ rfl g rfl _ (hC H) (0, 0) _ KH.out Try.underlying23 rfl (histSize' H) ?_)
  refine (CM2.out w2).mono ?_
  rintro e w3 ⟨rfl, st⟩
  replace KB := Lib.hid (KB.out.trans (st.mono KB.out.size))
  clear st CM2 KH
  go_wp2_with fail
  refine (ON.out _).mono ?_
  rintro e v1 ⟨p1, l1, c1, rfl, r1, -, r3⟩
  have X1 := Lib.hid r1
  replace KB := Lib.hid (KB.out.trans ((show Below _ _ v1 from by first | exact r3 | exact ((Below.refl _ _).drew).trans r3 | exact (below_drewN (Below.refl _ _) _).trans r3).mono KB.out.size))
  clear r1 r3
  go_wp2_with fail
  refine (OB.out _).mono ?_
  rintro e v2 ⟨p2, l2, c2, rfl, r1, -, r3⟩
  replace X1 := Lib.hid (X1.out.below (show Below _ _ v2 from by first | exact r3 | exact ((Below.refl _ _).drew).trans r3 | exact (below_drewN (Below.refl _ _) _).trans r3))
  have X2 := Lib.hid r1
  replace KB := Lib.hid (KB.out.trans ((show Below _ _ v2 from by first | exact r3 | exact ((Below.refl _ _).drew).trans r3 | exact (below_drewN (Below.refl _ _) _).trans r3).mono KB.out.size))
  clear r1 r3
  go_wp2_with fail
  refine (TNB.out _ _ _ _ _ _ _ (by first | exact X1.out | exact X1.out.drew | exact X1.out.drewN _) (by first | exact X2.out | exact X2.out.drew | exact X2.out.drewN _)).mono ?_
  rintro e v3 ⟨p3, l3, c3, rfl, r1, -, r3⟩
  have X3 := Lib.hid r1
  replace KB := Lib.hid (KB.out.trans ((show Below _ _ v3 from by first | exact r3 | exact ((Below.refl _ _).drew).trans r3 | exact (below_drewN (Below.refl _ _) _).trans r3).mono KB.out.size))
  clear r1 r3 X1 X2
  go_wp2_with fail
  refine (OM.out _).mono ?_
  rintro e v4 ⟨p4, l4, c4, rfl, r1, -, r3⟩
  replace X3 := Lib.hid (X3.out.below (show Below _ _ v4 from by first | exact r3 | exact ((Below.refl _ _).drew).trans r3 | exact (below_drewN (Below.refl _ _) _).trans r3))
  have X4 := Lib.hid r1
  replace KB := Lib.hid (KB.out.trans ((show Below _ _ v4 from by first | exact r3 | exact ((Below.refl _ _).drew).trans r3 | exact (below_drewN (Below.refl _ _) _).trans r3).mono KB.out.size))
  clear r1 r3
  go_wp2_with fail
  refine (OM.out _).mono ?_
  rintro e v5 ⟨p5, l5, c5, rfl, r1, -, r3⟩
  replace X3 := Lib.hid (X3.out.below (show Below _ _ v5 from by first | exact r3 | exact ((Below.refl _ _).drew).trans r3 | exact (below_drewN (Below.refl _ _) _).trans r3))
  replace X4 := Lib.hid (X4.out.below (show Below _ _ v5 from by first | exact r3 | exact ((Below.refl _ _).drew).trans r3 | exact (below_drewN (Below.refl _ _) _).trans r3))
  have X5 := Lib.hid r1
  replace KB := Lib.hid (KB.out.trans ((show Below _ _ v5 from by first | exact r3 | exact ((Below.refl _ _).drew).trans r3 | exact (below_drewN (Below.refl _ _) _).trans r3).mono KB.out.size))
  clear r1 r3
  go_wp2_with fail
  refine (TMM.out _ _ _ _ _ _ _ (by first | exact X4.out | exact X4.out.drew | exact X4.out.drewN _) (by first | exact X5.out | exact X5.out.drew | exact X5.out.drewN _)).mono ?_
  rintro e v6 ⟨p6, l6, c6, rfl, r1, -, r3⟩
  replace X3 := Lib.hid (X3.out.below (show Below _ _ v6 from by first | exact r3 | exact ((Below.refl _ _).drew).trans r3 | exact (below_drewN (Below.refl _ _) _).trans r3))
  have X6 := Lib.hid r1
  replace KB := Lib.hid (KB.out.trans ((show Below _ _ v6 from by first | exact r3 | exact ((Below.refl _ _).drew).trans r3 | exact (below_drewN (Below.refl _ _) _).trans r3).mono KB.out.size))
  clear r1 r3 X4 X5
  go_wp2_with fail
  refine (MI.out _ _ _ _ _ _ _ (by first | exact X3.out | exact X3.out.drew | exact X3.out.drewN _) (by first | exact X6.out | exact X6.out.drew | exact X6.out.drewN _)).mono ?_
  rintro e v7 ⟨p7, l7, c7, rfl, r1, -, r3⟩
  replace KB := Lib.hid (KB.out.trans ((show Below _ _ v7 from by first | exact r3 | exact ((Below.refl _ _).drew).trans r3 | exact (below_drewN (Below.refl _ _) _).trans r3).mono KB.out.size))
  generalize hn7 : l7.length = n7 at *
  have H7 := Lib.hid hn7
  have D7 := Lib.hid (BoxU.new v7 false p7 n7 c7)
  have al : Below v7.heap.size v7 (v7.alloc (Obj.cells #[Value.bool false, Value.slice p7 n7 c7] 89)) := (Below.refl _ v7).alloc (Nat.le_refl _) _
  have X7 := Lib.hid (r1.below al)
  replace KB := Lib.hid (KB.out.trans (al.mono KB.out.size))
  clear r1 r3 X3 X6 al hn7
  go_upto_region 6 with fail
  generalize (v7.alloc (Obj.cells #[Value.bool false, Value.slice p7 n7 c7] 89)) = wa at *
  generalize v7.heap.size = ga at *
  go_wp2_with fail
  refine (ON.out _).mono ?_
  rintro e v8 ⟨p8, l8, c8, rfl, r1, -, r3⟩
  have X8 := Lib.hid r1
  replace X7 := Lib.hid (X7.out.below (show Below _ _ v8 from by first | exact r3 | exact ((Below.refl _ _).drew).trans r3 | exact (below_drewN (Below.refl _ _) _).trans r3))
  replace D7 := Lib.hid (D7.out.below (show Below _ _ v8 from by first | exact r3 | exact ((Below.refl _ _).drew).trans r3 | exact (below_drewN (Below.refl _ _) _).trans r3))
  replace KB := Lib.hid (KB.out.trans ((show Below _ _ v8 from by first | exact r3 | exact ((Below.refl _ _).drew).trans r3 | exact (below_drewN (Below.refl _ _) _).trans r3).mono KB.out.size))
  clear r1 r3
  go_wp2_with fail
  refine (ON.out _).mono ?_
  rintro e v9 ⟨p9, l9, c9, rfl, r1, -, r3⟩
  replace X7 := Lib.hid (X7.out.below (show Below _ _ v9 from by first | exact r3 | exact ((Below.refl _ _).drew).trans r3 | exact (below_drewN (Below.refl _ _) _).trans r3))
  replace X8 := Lib.hid (X8.out.below (show Below _ _ v9 from by first | exact r3 | exact ((Below.refl _ _).drew).trans r3 | exact (below_drewN (Below.refl _ _) _).trans r3))
  replace D7 := Lib.hid (D7.out.below (show Below _ _ v9 from by first | exact r3 | exact ((Below.refl _ _).drew).trans r3 | exact (below_drewN (Below.refl _ _) _).trans r3))
  have X9 := Lib.hid r1
  replace KB := Lib.hid (KB.out.trans ((show Below _ _ v9 from by first | exact r3 | exact ((Below.refl _ _).drew).trans r3 | exact (below_drewN (Below.refl _ _) _).trans r3).mono KB.out.size))
  clear r1 r3
  go_wp2_with fail
  refine (TNN.out _ _ _ _ _ _ _ (by first | exact X8.out | exact X8.out.drew | exact X8.out.drewN _) (by first | exact X9.out | exact X9.out.drew | exact X9.out.drewN _)).mono ?_
  rintro e vA ⟨pA, lA, cA, rfl, r1, -, r3⟩
  replace X7 := Lib.hid (X7.out.below (show Below _ _ vA from by first | exact r3 | exact ((Below.refl _ _).drew).trans r3 | exact (below_drewN (Below.refl _ _) _).trans r3))
  replace D7 := Lib.hid (D7.out.below (show Below _ _ vA from by first | exact r3 | exact ((Below.refl _ _).drew).trans r3 | exact (below_drewN (Below.refl _ _) _).trans r3))
  replace KB := Lib.hid (KB.out.trans ((show Below _ _ vA from by first | exact r3 | exact ((Below.refl _ _).drew).trans r3 | exact (below_drewN (Below.refl _ _) _).trans r3).mono KB.out.size))
  generalize hnA : lA.length = nA at *
  have HA := Lib.hid hnA
  have DA := Lib.hid (BoxU.new vA false pA nA cA)
  have al : Below vA.heap.size vA (vA.alloc (Obj.cells #[Value.bool false, Value.slice pA nA cA] 89)) := (Below.refl _ vA).alloc (Nat.le_refl _) _
  have XA := Lib.hid (r1.below al)
  replace X7 := Lib.hid (X7.out.below al)
  replace D7 := Lib.hid (D7.out.below al)
  replace KB := Lib.hid (KB.out.trans (al.mono KB.out.size))
  clear r1 r3 X8 X9 al hnA
  go_upto_region 7 with fail
  generalize (vA.alloc (Obj.cells #[Value.bool false, Value.slice pA nA cA] 89)) = wb at *
  generalize vA.heap.size = gb at *
  obtain ⟨k1, k2, k3⟩ := D7.out
  obtain ⟨k4, k5, k6⟩ := DA.out
  go_region_held3 (fun w' => w'.cell? ⟨ga, 0, none⟩ = some (.bool false) ∧ w'.cell? ⟨ga, 1, none⟩ = some (.slice p7 n7 c7) ∧ w'.cell? ⟨gb, 0, none⟩ = some (.bool false) ∧ w'.cell? ⟨gb, 1, none⟩ = some (.slice pA nA cA))
    (first | exact ⟨k2, k3, k5, k6⟩)
    (first
      | (go_at_call 64; (with_reducible refine (OC.out _).mono ?_); rintro e vB ⟨pB, lB, cB, rfl, r1, -, r3⟩; replace D7 := Lib.hid (D7.out.below (show Below _ _ vB from by first | exact r3 | exact ((Below.refl _ _).drew).trans r3 | exact (below_drewN (Below.refl _ _) _).trans r3)); replace DA := Lib.hid (DA.out.below (show Below _ _ vB from by first | exact r3 | exact ((Below.refl _ _).drew).trans r3 | exact (below_drewN (Below.refl _ _) _).trans r3)); clear k1 k2 k3 k4 k5 k6; obtain ⟨k1, k2, k3⟩ := D7.out; obtain ⟨k4, k5, k6⟩ := DA.out; replace X7 := Lib.hid (X7.out.below (show Below _ _ vB from by first | exact r3 | exact ((Below.refl _ _).drew).trans r3 | exact (below_drewN (Below.refl _ _) _).trans r3)); replace XA := Lib.hid (XA.out.below (show Below _ _ vB from by first | exact r3 | exact ((Below.refl _ _).drew).trans r3 | exact (below_drewN (Below.refl _ _) _).trans r3)); have XB := Lib.hid r1; replace KB := Lib.hid (KB.out.trans ((show Below _ _ vB from by first | exact r3 | exact ((Below.refl _ _).drew).trans r3 | exact (below_drewN (Below.refl _ _) _).trans r3).mono KB.out.size)); clear r1 r3)
      | (go_at_call 66; (with_reducible refine (TOC.out _ _ _ _ _ _ _ _ H7.out (by first | exact X7.out | exact X7.out.drew | exact X7.out.drewN _) (by first | exact XB.out | exact XB.out.drew | exact XB.out.drewN _)).mono ?_); rintro e vC ⟨pC, lC, cC, rfl, r1, -, r3⟩; replace D7 := Lib.hid (D7.out.below (show Below _ _ vC from by first | exact r3 | exact ((Below.refl _ _).drew).trans r3 | exact (below_drewN (Below.refl _ _) _).trans r3)); replace DA := Lib.hid (DA.out.below (show Below _ _ vC from by first | exact r3 | exact ((Below.refl _ _).drew).trans r3 | exact (below_drewN (Below.refl _ _) _).trans r3)); clear k1 k2 k3 k4 k5 k6; obtain ⟨k1, k2, k3⟩ := D7.out; obtain ⟨k4, k5, k6⟩ := DA.out; replace XA := Lib.hid (XA.out.below (show Below _ _ vC from by first | exact r3 | exact ((Below.refl _ _).drew).trans r3 | exact (below_drewN (Below.refl _ _) _).trans r3)); have XC := Lib.hid r1; replace KB := Lib.hid (KB.out.trans ((show Below _ _ vC from by first | exact r3 | exact ((Below.refl _ _).drew).trans r3 | exact (below_drewN (Below.refl _ _) _).trans r3).mono KB.out.size)); clear r1 r3)
      | (go_at_call 63; (with_reducible refine (RD.out _ _ _ _ _ _ _ _ HA.out (by first | exact XC.out | exact XC.out.drew | exact XC.out.drewN _) (by first | exact XA.out.more (by omega) | exact XA.out.drew.more (by omega) | exact (XA.out.drewN _).more (by omega))).mono ?_); rintro e vD ⟨pD, lD, cD, rfl, r1, -, r3⟩; replace D7 := Lib.hid (D7.out.below (show Below _ _ vD from by first | exact r3 | exact ((Below.refl _ _).drew).trans r3 | exact (below_drewN (Below.refl _ _) _).trans r3)); replace DA := Lib.hid (DA.out.below (show Below _ _ vD from by first | exact r3 | exact ((Below.refl _ _).drew).trans r3 | exact (below_drewN (Below.refl _ _) _).trans r3)); clear k1 k2 k3 k4 k5 k6; obtain ⟨k1, k2, k3⟩ := D7.out; obtain ⟨k4, k5, k6⟩ := DA.out; have XD := Lib.hid r1; replace KB := Lib.hid (KB.out.trans ((show Below _ _ vD from by first | exact r3 | exact ((Below.refl _ _).drew).trans r3 | exact (below_drewN (Below.refl _ _) _).trans r3).mono KB.out.size)); clear r1 r3)
      | (go_at_call 62; (with_reducible refine (WI.out _ _ _ _ (by first | exact XD.out | exact XD.out.drew | exact XD.out.drewN _)).mono ?_); rintro e vE ⟨rfl, r3⟩; replace D7 := Lib.hid (D7.out.below (show Below _ _ vE from by first | exact r3 | exact ((Below.refl _ _).drew).trans r3 | exact (below_drewN (Below.refl _ _) _).trans r3)); replace DA := Lib.hid (DA.out.below (show Below _ _ vE from by first | exact r3 | exact ((Below.refl _ _).drew).trans r3 | exact (below_drewN (Below.refl _ _) _).trans r3)); clear k1 k2 k3 k4 k5 k6; obtain ⟨k1, k2, k3⟩ := D7.out; obtain ⟨k4, k5, k6⟩ := DA.out; replace KB := Lib.hid (KB.out.trans ((show Below _ _ vE from by first | exact r3 | exact ((Below.refl _ _).drew).trans r3 | exact (below_drewN (Below.refl _ _) _).trans r3).mono KB.out.size)); clear r3))
  clear k1 k2 k3 k4 k5 k6
  go_wp2_with fail
  go_ret2
  exact ⟨_, _, rfl, FF.out, (by first | exact KB.out | exact KB.out.drew | exact below_drewN KB.out _)⟩
end Go.Proofs.Ytbcfafihkdddeaa

/- Classing: Merge, the reference's. -/
namespace Go.Proofs.Ytbcfafihkdddeaa
open Go.RowKit
set_option linter.unusedVariables false
set_option linter.unusedSimpArgs false

theorem res_rmerge (tmps : Array Value) (W : World) (g : Nat) (C : Nat → Int) (v : Value) (h4 : tmps.getD 4 undef = .pointer (some ⟨g, 0, none⟩)) (h5 : tmps.getD 5 undef = v) (h : HB W g C) :
    (results Try.f14 tmps).run Try.prog W = .ok (.tuple #[hV C, v]) W := by
  have e := run_loadVar_row (P := Try.prog) W g 23 23 (hC C) (0, 0) _ h Try.underlying23 rfl (histSize' C)
  have h4' : tmps[4]?.getD undef = .pointer (some ⟨g, 0, none⟩) := by simpa using h4
  have h5' : tmps[5]?.getD undef = v := by simpa using h5
  simp [results, Try.results14, h4', h5', asAddr, e]

set_option maxRecDepth 100000 in
set_option maxHeartbeats 4000000 in
theorem rMerge_any (A B : Nat → Int) (w : World) :
    Calls Try.prog 14 #[hV A, hV B] w fun e w' => ∃ C x, e = .returned (.tuple #[hV C, .int .i64 x]) ∧ MrgQ A B C x ∧ Below w.heap.size w w' := by
  have CT := Lib.hid (fun H W => rsum_any H W)
  have HQ := Lib.hid (show ∀ C x, MrgQ A B C x = ((¬ (HOk A 64 ∧ HOk B 64) ∧ x = 2 ∧ (∀ k, C k = 0)) ∨ (HOk A 64 ∧ HOk B 64 ∧ 1048576 < hsum A 64 + hsum B 64 ∧ x = 4 ∧ (∀ k, C k = 0)) ∨ (HOk A 64 ∧ HOk B 64 ∧ hsum A 64 + hsum B 64 ≤ 1048576 ∧ x = 0 ∧ ∀ k, k < 64 → C k = A k + B k)) from fun _ _ => rfl)
  have T3 := Lib.hid (threeH w (Obj.cells (hC A) 23) (Obj.cells (hC B) 23) (Obj.cells (hC (fun _ => 0)) 23))
  go_enter Try.func14, Try.ntmps14
  go_upto_region 1 with fail
  rw [hz64]
  generalize ((w.alloc (Obj.cells (hC A) 23)).alloc (Obj.cells (hC B) 23)).alloc (Obj.cells (hC (fun _ => 0)) 23) = w1 at *
  obtain ⟨ga, hga⟩ : ∃ g, g = w.heap.size := ⟨_, rfl⟩
  obtain ⟨gb, hgb⟩ : ∃ g, g = w.heap.size + 1 := ⟨_, rfl⟩
  obtain ⟨gr, hgr⟩ : ∃ g, g = w.heap.size + 1 + 1 := ⟨_, rfl⟩
  have X1 := Lib.hid (show (HB w1 ga A ∧ HB w1 gb B ∧ HB w1 gr (fun _ => 0)) ∧ Below w.heap.size w w1 from by rw [hga, hgb, hgr]; exact ⟨⟨T3.out.1, T3.out.2.1, T3.out.2.2.1⟩, T3.out.2.2.2⟩)
  have GG := Lib.hid (show w.heap.size ≤ ga ∧ w.heap.size ≤ gr ∧ ga ≠ gr ∧ ga ≠ gb ∧ gb ≠ gr from by omega)
  rw [← hgr, ← hgb, ← hga]
  clear hga hgb hgr T3
  go_wp2_with (refine wpList_load_row rfl _ _ rfl ga rfl _ (hC A) (0, 0) _ X1.out.1.1 Try.underlying23 rfl (histSize' A) ?_)
  refine (CT.out A w1).mono ?_
  rintro e w2 ⟨n, x, rfl, tq, st⟩
  have TA := Lib.hid tq
  have X2 := Lib.hid (show (HB w2 ga A ∧ HB w2 gb B ∧ HB w2 gr (fun _ => 0)) ∧ Below w.heap.size w w2 from by
    obtain ⟨⟨h1, h2, h3⟩, b⟩ := X1.out
    exact ⟨⟨h1.keep (st.block _ h1.lt), h2.keep (st.block _ h2.lt), h3.keep (st.block _ h3.lt)⟩, b.trans (st.mono b.size)⟩)
  clear tq st X1
  go_wp2_with (refine wpList_load_row rfl _ _ rfl gb rfl _ (hC B) (0, 0) _ X2.out.1.2.1 Try.underlying23 rfl (histSize' B) ?_)
  refine (CT.out B w2).mono ?_
  rintro e w3 ⟨m, y, rfl, tq, st⟩
  have TB := Lib.hid tq
  have X3 := Lib.hid (show (HB w3 ga A ∧ HB w3 gb B ∧ HB w3 gr (fun _ => 0)) ∧ Below w.heap.size w w3 from by
    obtain ⟨⟨h1, h2, h3⟩, b⟩ := X2.out
    exact ⟨⟨h1.keep (st.block _ h1.lt), h2.keep (st.block _ h2.lt), h3.keep (st.block _ h3.lt)⟩, b.trans (st.mono b.size)⟩)
  clear tq st X2 CT
  have BZ := Lib.hid (show Below w.heap.size w (w3.setRow gr (hC (fun _ => 0))) ∧ HB (w3.setRow gr (hC (fun _ => 0))) gr (fun _ => 0) from by
    refine ⟨?_, X3.out.1.2.2.row _⟩
    have b := X3.out.2
    exact b.trans (hb_setRow (by have := X3.out.1.2.2.lt; exact this) GG.out.2.1 _))
  by_cases ok : x = true ∧ y = true
  case neg =>
    have FF := Lib.hid (show MrgQ A B (fun _ => 0) 2 from by
      rw [HQ.out]
      refine .inl ⟨fun h => ok ?_, rfl, fun _ => rfl⟩
      constructor
      · rcases TA.out with ⟨_, a, _⟩ | ⟨a, _⟩
        · exact a
        · exact absurd h.1 a
      · rcases TB.out with ⟨_, a, _⟩ | ⟨a, _⟩
        · exact a
        · exact absurd h.2 a)
    have RES := Lib.hid (fun tmps h4 h5 => res_rmerge tmps (w3.setRow gr (hC (fun _ => 0))) gr (fun _ => 0) (.int .i64 2) h4 h5 BZ.out.2)
    have XY : x = false ∨ (x = true ∧ y = false) := by
      cases x <;> cases y <;> simp at ok ⊢
    clear TA TB HQ ok
    rcases XY with rfl | ⟨rfl, rfl⟩
    · go_wp2_with (refine wpList_store_row rfl _ _ _ rfl gr (hC (fun _ => 0)) rfl (by first | rfl | exact congrArg Value.agg hz64) 23 (hC (fun _ => 0)) X3.out.1.2.2 (histSize' _) rfl (hC_one _) ?_)
      refine bodyPost_ret (RES.out _ rfl rfl) rfl ?_
      exact ⟨_, 2, rfl, FF.out, BZ.out.1⟩
    · go_wp2_with (refine wpList_store_row rfl _ _ _ rfl gr (hC (fun _ => 0)) rfl (by first | rfl | exact congrArg Value.agg hz64) 23 (hC (fun _ => 0)) X3.out.1.2.2 (histSize' _) rfl (hC_one _) ?_)
      refine bodyPost_ret (RES.out _ rfl rfl) rfl ?_
      exact ⟨_, 2, rfl, FF.out, BZ.out.1⟩
  obtain ⟨rfl, rfl⟩ := ok
  obtain ⟨oa, rfl⟩ : HOk A 64 ∧ n = hsum A 64 := by
    rcases TA.out with ⟨a, _, b⟩ | ⟨_, a⟩
    · exact ⟨a, b⟩
    · cases a
  obtain ⟨ob, rfl⟩ : HOk B 64 ∧ m = hsum B 64 := by
    rcases TB.out with ⟨a, _, b⟩ | ⟨_, a⟩
    · exact ⟨a, b⟩
    · cases a
  have OA := Lib.hid oa
  have OB := Lib.hid ob
  have a0 : 0 ≤ hsum A 64 := by have := hsum_mono (k := 0) oa.1 (Nat.zero_le 64); exact this
  have b0 : 0 ≤ hsum B 64 := by have := hsum_mono (k := 0) ob.1 (Nat.zero_le 64); exact this
  have a1 := oa.2
  have b1 := ob.2
  have FB := Lib.hid (show 1048576 < hsum A 64 + hsum B 64 → MrgQ A B (fun _ => 0) 4 from fun h => by rw [HQ.out]; exact .inr (.inl ⟨OA.out, OB.out, h, rfl, fun _ => rfl⟩))
  have FG := Lib.hid (show hsum A 64 + hsum B 64 ≤ 1048576 → ∀ C, (∀ k, k < 64 → C k = A k + B k) → MrgQ A B C 0 from fun h C hc => by rw [HQ.out]; exact .inr (.inr ⟨OA.out, OB.out, h, rfl, hc⟩))
  clear TA TB oa ob HQ
  generalize hsum A 64 = SA at *
  generalize hsum B 64 = SB at *
  have wS : IntKind.i64.wrap (SA + SB) = SA + SB := hwI (by omega) (by omega)
  by_cases big : 1048576 < SA + SB
  · have d1 : decide (1048576 < SA + SB) = true := decide_eq_true big
    have FF := Lib.hid (FB.out big)
    have RES := Lib.hid (fun tmps h4 h5 => res_rmerge tmps (w3.setRow gr (hC (fun _ => 0))) gr (fun _ => 0) (.int .i64 4) h4 h5 BZ.out.2)
    clear FB FG big OA OB
    go_wp2_with (refine wpList_store_row rfl _ _ _ rfl gr (hC (fun _ => 0)) rfl (by first | rfl | exact congrArg Value.agg hz64) 23 (hC (fun _ => 0)) X3.out.1.2.2 (histSize' _) rfl (hC_one _) ?_)
    refine bodyPost_ret (RES.out _ rfl rfl) rfl ?_
    exact ⟨_, 4, rfl, FF.out, BZ.out.1⟩
  have d1 : decide (1048576 < SA + SB) = false := decide_eq_false big
  have FF := Lib.hid (FG.out (by omega))
  have AB := Lib.hid (show ∀ k, k < 64 → (0 ≤ A k ∧ A k ≤ 1048576) ∧ 0 ≤ B k ∧ B k ≤ 1048576 from fun k hk => ⟨hok_at OA.out hk, hok_at OB.out hk⟩)
  clear FB FG big OA OB BZ a0 b0 a1 b1
  go_upto_region 7 with fail
  clear d1 wS
  go_wp2_with fail
  have X4 := Lib.hid (show HB w3 ga (fun j => if j < 0 then A j + B j else A j) from by
    unfold HB
    rw [hC_ext (H := fun j => if j < 0 then A j + B j else A j) (G := A) (fun k _ => by rw [if_neg (by omega)])]
    exact X3.out.1.1)
  go_loopw [10] (fun kv wr => ∃ k : Nat, k ≤ 64 ∧ kv = .int .i64 k ∧ Hid (HB wr ga (fun j => if j < k then A j + B j else A j)) ∧ Hid (HB wr gb B) ∧ Hid (HB wr gr (fun _ => 0)) ∧ Hid (Below w.heap.size w wr)) (fun kv _ => 64 - (intOf kv).toNat)
  case atStart => exact ⟨0, by omega, rfl, X4, Lib.hid X3.out.1.2.1, Lib.hid X3.out.1.2.2, Lib.hid X3.out.2⟩
  case round =>
    clear X4 X3
    obtain ⟨k, hk, rfl, HA, HBG, HR, HW⟩ := hrel
    by_cases t1 : k < 64
    · have k2 : (k : Int) < 64 := by omega
      have k1 : (0 : Int) ≤ (k : Int) := by omega
      have cb := HBG.out.cell t1
      have HBG2 := Lib.hid (show HB (wr.setCell ⟨ga, k, none⟩ (.int .i64 (A k + B k))) gb B from HBG.out.keep (Below.heap_setCell _ _ _ _ (by have := GG.out; dsimp only; omega)))
      have ca := HA.out.cell t1
      have fa := HA.out.frozen k
      rw [if_neg (show ¬ k < k by omega)] at ca
      obtain ⟨⟨p1, p2⟩, p3, p4⟩ := AB.out k t1
      have HA2 := Lib.hid (show HB (wr.setCell ⟨ga, k, none⟩ (.int .i64 (A k + B k))) ga (fun j => if j < k + 1 then A j + B j else A j) from by
        have := HA.out.set k (A k + B k)
        unfold HB at this ⊢
        rw [hC_ext (H := fun j => if j < k + 1 then A j + B j else A j) (G := fun j => if j = k then A k + B k else (fun j => if j < k then A j + B j else A j) j) (fun j _ => by
          by_cases e : j = k
          · subst e; rw [if_pos rfl, if_pos (by omega)]
          · rw [if_neg e]
            show _ = (if j < k then A j + B j else A j)
            by_cases l : j < k
            · rw [if_pos l, if_pos (by omega)]
            · rw [if_neg l, if_neg (by omega)])]
        exact this)
      have HR2 := Lib.hid (show HB (wr.setCell ⟨ga, k, none⟩ (.int .i64 (A k + B k))) gr (fun _ => 0) from HR.out.keep (Below.heap_setCell _ _ _ _ (by have := GG.out; dsimp only; omega)))
      have HW2 := Lib.hid (show Below w.heap.size w (wr.setCell ⟨ga, k, none⟩ (.int .i64 (A k + B k))) from HW.out.setCell (by have := GG.out; dsimp only; omega) _)
      generalize A k = a at *
      generalize B k = b at *
      have wy : IntKind.i64.wrap (a + b) = a + b := hwI (by omega) (by omega)
      clear HA HR HW HBG
      go_upto_region 10 with fail
      go_region_law (fail)
      all_goals
        go_wp2_with fail
        go_roundw
      all_goals first
        | exact ⟨k + 1, by omega, by go_num, HA2, HBG2, HR2, HW2⟩
        | exact ⟨k + 1, by omega, by go_num, Lib.hid (HA2.out.below ((Below.refl _ _).drew)), Lib.hid (HBG2.out.below ((Below.refl _ _).drew)), Lib.hid (HR2.out.below ((Below.refl _ _).drew)), Lib.hid HW2.out.drew⟩
        | exact ⟨k + 1, by omega, by go_num, Lib.hid (HA2.out.below (below_drewN (Below.refl _ _) _)), Lib.hid (HBG2.out.below (below_drewN (Below.refl _ _) _)), Lib.hid (HR2.out.below (below_drewN (Below.refl _ _) _)), Lib.hid (below_drewN HW2.out _)⟩
        | (simp [intOf]; omega)
    obtain rfl : k = 64 := by omega
    have HS := Lib.hid (show HB wr ga (fun j => A j + B j) from by
      have := HA.out
      unfold HB at this ⊢
      rw [hC_ext (H := fun j => A j + B j) (G := fun j => if j < 64 then A j + B j else A j) (fun j hj => by rw [if_pos hj])]
      exact this)
    have BZ := Lib.hid (show Below w.heap.size w (wr.setRow gr (hC (fun j => A j + B j))) ∧ HB (wr.setRow gr (hC (fun j => A j + B j))) gr (fun j => A j + B j) from
      ⟨HW.out.trans (hb_setRow (by have := HR.out.lt; exact this) GG.out.2.1 _), HR.out.row _⟩)
    have RES := Lib.hid (fun tmps h4 h5 => res_rmerge tmps (wr.setRow gr (hC (fun j => A j + B j))) gr (fun j => A j + B j) (.int .i64 0) h4 h5 BZ.out.2)
    have FF2 := Lib.hid (FF.out (fun j => A j + B j) (fun _ _ => rfl))
    clear HA FF AB
    go_wp2_with (first
      | (refine wpList_load_row rfl _ _ rfl ga rfl _ (hC (fun j => A j + B j)) (0, 0) _ HS.out Try.underlying23 rfl (histSize' _) ?_)
      | (refine wpList_store_row rfl _ _ _ rfl gr (hC (fun j => A j + B j)) rfl rfl 23 (hC (fun _ => 0)) HR.out (histSize' _) (by rw [hC_size, hC_size]) (hC_one _) ?_))
    refine bodyPost_ret (RES.out _ rfl rfl) rfl ?_
    exact ⟨_, 0, rfl, FF2.out, BZ.out.1⟩
end Go.Proofs.Ytbcfafihkdddeaa

/- Classing: Quantile and Share, the reference's. -/
namespace Go.Proofs.Ytbcfafihkdddeaa
open Go.RowKit
set_option linter.unusedVariables false
set_option linter.unusedSimpArgs false

set_option maxRecDepth 100000 in
set_option maxHeartbeats 8000000 in
theorem rQuantile_any (H : Nat → Int) (fn fd : Int) (n1 : -9223372036854775808 ≤ fn ∧ fn ≤ 9223372036854775807) (w : World) :
    Calls Try.prog 20 #[hV H, .agg #[.int .i64 fn, .int .i64 fd]] w fun e w' => ∃ z x, e = .returned (.tuple #[.int .i64 z, .int .i64 x]) ∧ QuaQ H fn fd z x ∧ Below w.heap.size w w' := by
  have HQ := Lib.hid (show ∀ z e, QuaQ H fn fd z e = ((¬ HOk H 64 ∧ e = 2 ∧ z = 0) ∨ (HOk H 64 ∧ ¬ FOk fn fd ∧ e = 2 ∧ z = 0) ∨ (HOk H 64 ∧ FOk fn fd ∧ hsum H 64 = 0 ∧ e = 5 ∧ z = 0) ∨ (HOk H 64 ∧ FOk fn fd ∧ 0 < hsum H 64 ∧ e = 0 ∧ ∃ i : Nat, z = i ∧ i < 64 ∧ fn * hsum H 64 ≤ hsum H (i + 1) * fd ∧ ∀ j, j < i → hsum H (j + 1) * fd < fn * hsum H 64)) from fun _ _ => rfl)
  have CT := Lib.hid (fun W => rsum_any H W)
  have CF := Lib.hid (fun W => rfirst_any H W)
  have CV := Lib.hid (fun W => rValid_any fn fd n1.1 n1.2 W)
  have K0 := Lib.hid (QB.new w H fn fd)
  go_enter Try.func20, Try.ntmps20
  go_upto_region 1 with fail
  generalize (w.alloc (Obj.cells (hC H) 23)).alloc (Obj.cells #[Value.int .i64 fn, Value.int .i64 fd] 25) = w1 at *
  obtain ⟨gh, hgh⟩ : ∃ g, g = w.heap.size := ⟨_, rfl⟩
  obtain ⟨gf, hgf⟩ : ∃ g, g = w.heap.size + 1 := ⟨_, rfl⟩
  have K1 := Lib.hid (show QB w w1 gh gf H fn fd from by rw [hgh, hgf]; exact K0.out)
  rw [← hgf, ← hgh]
  clear hgh hgf K0
  go_wp2_with (refine wpList_load_row rfl _ _ rfl gh rfl _ (hC H) (0, 0) _ K1.out.hb Try.underlying23 rfl (histSize' H) ?_)
  refine (CT.out w1).mono ?_
  rintro e w2 ⟨n, b, rfl, tq, st⟩
  have SQ := Lib.hid tq
  have K2 := Lib.hid (K1.out.below st)
  clear tq st K1 CT
  cases b
  case false =>
    have FF := Lib.hid (show QuaQ H fn fd 0 2 from by
      rw [HQ.out]
      rcases SQ.out with ⟨_, a, _⟩ | ⟨a, _⟩
      · cases a
      · exact .inl ⟨a, rfl, rfl⟩)
    clear CV HQ SQ CF
    go_wp2_with fail
    go_ret2
    exact ⟨0, 2, rfl, FF.out, K2.out.bel⟩
  have ok : HOk H 64 := by
    rcases SQ.out with ⟨a, _, _⟩ | ⟨_, a⟩
    · exact a
    · cases a
  have OK := Lib.hid ok
  have BAD := Lib.hid (show ¬ FOk fn fd → QuaQ H fn fd 0 2 from fun h => by rw [HQ.out]; exact .inr (.inl ⟨OK.out, h, rfl, rfl⟩))
  clear ok SQ
  obtain ⟨hb2, c0, c1, lt2, -⟩ := K2.out
  go_wp2_with fail
  refine (CV.out w2).mono ?_
  rintro e w3 ⟨rfl, st⟩
  have K3 := Lib.hid (K2.out.below st)
  clear hb2 c0 c1 lt2 st K2 CV
  obtain ⟨-, c0, c1, lt3, -⟩ := K3.out
  by_cases v : vldB fn fd = true
  case neg =>
    have v1 : vldB fn fd = false := by simpa using v
    have FF := Lib.hid (BAD.out (fun h => v h.1))
    rw [v1]
    clear v BAD HQ CF
    go_wp2_with fail
    go_ret2
    exact ⟨0, 2, rfl, FF.out, K3.out.bel⟩
  have V := Lib.hid v
  rw [v]
  by_cases f0 : fn < 0
  · have d1 : decide (fn < 0) = true := decide_eq_true f0
    have FF := Lib.hid (BAD.out (fun h => by have := h.2.1; omega))
    clear v f0 BAD HQ V CF
    go_wp2_with fail
    go_ret2
    exact ⟨0, 2, rfl, FF.out, K3.out.bel⟩
  have d1 : decide (fn < 0) = false := decide_eq_false f0
  by_cases f1 : fd < fn
  · have d2 : decide (fd < fn) = true := decide_eq_true f1
    have FF := Lib.hid (BAD.out (fun h => by have := h.2.2; omega))
    clear v f0 f1 BAD HQ V CF
    go_wp2_with fail
    go_ret2
    exact ⟨0, 2, rfl, FF.out, K3.out.bel⟩
  have d2 : decide (fd < fn) = false := decide_eq_false f1
  have FO := Lib.hid (show FOk fn fd from ⟨V.out, by omega, by omega⟩)
  obtain ⟨b1, b2, b3, b4, -⟩ := vldB_true.1 v
  clear v BAD V
  go_wp2_with (refine wpList_load_row rfl _ _ rfl gh rfl _ (hC H) (0, 0) _ K3.out.hb Try.underlying23 rfl (histSize' H) ?_)
  refine (CF.out w3).mono ?_
  rintro e w4 ⟨S, x, rfl, fq, st⟩
  have FQ := Lib.hid fq
  have K4 := Lib.hid (K3.out.below st)
  clear fq st CF K3 c0 c1 lt3
  by_cases x0 : x = 0
  case neg =>
    have x1 : (x == 0) = false := by simpa using x0
    have x2 : (x != 0) = true := by simpa using x0
    have FF := Lib.hid (show QuaQ H fn fd 0 x from by
      rw [HQ.out]
      rcases FQ.out with ⟨a, b, _⟩ | ⟨a, b, c, _⟩ | ⟨_, _, a, _⟩
      · exact absurd OK.out a
      · exact .inr (.inr (.inl ⟨a, FO.out, b, c, rfl⟩))
      · exact absurd a x0)
    clear x0 HQ FQ FO OK
    go_wp2_with fail
    go_ret2
    exact ⟨0, x, rfl, FF.out, K4.out.bel⟩
  subst x0
  obtain ⟨spos, hS⟩ : 0 < S ∧ S = hsum H 64 := by
    rcases FQ.out with ⟨_, a, _⟩ | ⟨_, _, a, _⟩ | ⟨a, b, _, c⟩
    · omega
    · omega
    · exact ⟨by omega, c⟩
  have HS := Lib.hid hS
  have s0 : 0 ≤ S := by omega
  have s1 : S ≤ 1048576 := by rw [hS]; exact OK.out.2
  have x1 : ((0 : Int) == 0) = true := by decide
  have x2 : ((0 : Int) != 0) = false := by decide
  clear FQ hS
  have FIN := Lib.hid (show ∀ i : Nat, i < 64 → fn * S ≤ hsum H (i + 1) * fd → (∀ j, j < i → hsum H (j + 1) * fd < fn * S) → QuaQ H fn fd i 0 from fun i h1 h2 h3 => by
    rw [HQ.out]
    exact .inr (.inr (.inr ⟨OK.out, FO.out, by rw [← HS.out]; omega, rfl, i, rfl, h1, by rw [← HS.out]; exact h2, fun j hj => by rw [← HS.out]; exact h3 j hj⟩)))
  have NZ := Lib.hid (show ∀ k, k ≤ 64 → 0 ≤ hsum H k ∧ hsum H k ≤ S from fun k hk => ⟨hsum_nonneg (OK.out.less hk), by rw [HS.out]; exact hsum_mono OK.out.1 hk⟩)
  have END := Lib.hid (show ¬ hsum H 64 * fd < fn * S from fun h => by
    rw [← HS.out] at h
    have : fn * S ≤ fd * S := Int.mul_le_mul_of_nonneg_right (by omega) s0
    rw [Int.mul_comm fd S] at this
    omega)
  have fs : 0 ≤ fn * S ∧ fn * S ≤ 1048576 * 1048576 := by
    refine ⟨Int.mul_nonneg (by omega) s0, ?_⟩
    exact Int.le_trans (Int.mul_le_mul_of_nonneg_right (show fn ≤ 1048576 by omega) s0) (Int.mul_le_mul_of_nonneg_left s1 (by omega))
  obtain ⟨hb4, c0, c1, lt4, bel4⟩ := K4.out
  have B4 := Lib.hid bel4
  have HB4 := Lib.hid hb4
  obtain ⟨Q, hQ⟩ : ∃ Q, Q = fn * S := ⟨_, rfl⟩
  rw [← hQ] at FIN END fs
  have wQ : IntKind.i64.wrap (fn * S) = Q := by rw [← hQ]; exact hwI (by omega) (by omega)
  have wQ2 : wrap64 (fn * S) = Q := by rw [← IntWalk.i64_left]; exact wQ
  clear hQ fs K4 hb4 lt4 bel4 HQ OK FO HS b3 b4 f0 f1 spos d1 d2
  go_wp2_with fail
  go_loopw [10, 11] (fun cv iv wr => ∃ i : Nat, i ≤ 64 ∧ iv = .int .i64 i ∧ cv = .int .i64 (hsum H i) ∧ Hid (∀ j, j < i → hsum H (j + 1) * fd < Q) ∧ wr = w4) (fun _ iv _ => 64 - (intOf iv).toNat)
  case atStart => exact ⟨0, by omega, rfl, rfl, Lib.hid (fun j hj => by omega), rfl⟩
  case round =>
    obtain ⟨i, hi, rfl, rfl, ALL, rfl⟩ := hrel
    by_cases t1 : i < 64
    · have i1 : (0 : Int) ≤ (i : Int) := by omega
      have i2 : (i : Int) < 64 := by omega
      have ci := HB4.out.cell t1
      have nz := NZ.out i (by omega)
      have nx := NZ.out (i + 1) (by omega)
      have SS := Lib.hid (show hsum H (i + 1) = hsum H i + H i from rfl)
      have FI := Lib.hid (FIN.out i t1)
      have AL2 := Lib.hid (show hsum H (i + 1) * fd < Q → ∀ j, j < i + 1 → hsum H (j + 1) * fd < Q from fun h j hj => by
        by_cases e : j = i
        · rw [e]; exact h
        · exact ALL.out j (by omega))
      obtain ⟨C, hC⟩ : ∃ C, C = hsum H (i + 1) := ⟨_, rfl⟩
      rw [← hC] at nx FI AL2 SS
      have wC : IntKind.i64.wrap (hsum H i + H i) = C := by rw [← SS.out]; exact hwI (by omega) (by omega)
      have wC2 : wrap64 (hsum H i + H i) = C := by rw [← IntWalk.i64_left]; exact wC
      obtain ⟨P, hP⟩ : ∃ P, P = C * fd := ⟨_, rfl⟩
      rw [← hP] at FI AL2
      have pb : 0 ≤ P ∧ P ≤ 1048576 * 1048576 := by
        rw [hP]
        exact ⟨Int.mul_nonneg nx.1 (by omega), Int.le_trans (Int.mul_le_mul_of_nonneg_right (show C ≤ 1048576 by omega) (by omega)) (Int.mul_le_mul_of_nonneg_left b2 (by omega))⟩
      have wP : IntKind.i64.wrap (C * fd) = P := by rw [← hP]; exact hwI (by omega) (by omega)
      have wP2 : wrap64 (C * fd) = P := by rw [← IntWalk.i64_left]; exact wP
      have HC := Lib.hid hC
      clear hP pb SS nz hC
      generalize hsum H i = C0 at *
      generalize H i = h at *
      by_cases lt : P < Q
      · have d3 : decide (Q ≤ P) = false := decide_eq_false (by omega)
        have A2 := Lib.hid (AL2.out lt)
        clear lt FI AL2 ALL
        go_wp2_with fail
        go_roundw
        case rel => exact ⟨i + 1, by omega, by go_num, by rw [HC.out], A2, by first | rfl | trivial⟩
        case measure => simp [intOf]; omega
      · have d3 : decide (Q ≤ P) = true := decide_eq_true (by omega)
        have FF := Lib.hid (FI.out (by omega) ALL.out)
        clear lt FI AL2
        go_wp2_with fail
        go_ret2
        exact ⟨i, 0, rfl, FF.out, B4.out⟩
    · exfalso
      have e64 : i = 64 := by omega
      subst e64
      have this : hsum H 64 * fd < Q := ALL.out 63 (by omega)
      have e := END.out
      omega

set_option maxRecDepth 100000 in
set_option maxHeartbeats 8000000 in
theorem rShare_any (H : Nat → Int) (b : Int) (w : World) :
    Calls Try.prog 22 #[hV H, .int .i64 b] w fun e w' => ∃ V D x, e = .returned (fracV V D x) ∧ ShaR H b V D x ∧ Below w.heap.size w w' := by
  have HQ := Lib.hid (show ∀ V D e, ShaR H b V D e = ((¬ HOk H 64 ∧ e = 2 ∧ V = 0 ∧ D = 0) ∨ (HOk H 64 ∧ ¬ (0 ≤ b ∧ b ≤ 64) ∧ e = 2 ∧ V = 0 ∧ D = 0) ∨ (HOk H 64 ∧ (0 ≤ b ∧ b ≤ 64) ∧ hsum H 64 = 0 ∧ e = 5 ∧ V = 0 ∧ D = 0) ∨ (HOk H 64 ∧ (0 ≤ b ∧ b ≤ 64) ∧ 0 < hsum H 64 ∧ ∃ k : Nat, b = k ∧ k ≤ 64 ∧ IsFrac (hsum H k) (hsum H 64) V D e)) from fun _ _ _ => rfl)
  have CT := Lib.hid (fun W => rsum_any H W)
  have CF := Lib.hid (fun W => rfirst_any H W)
  have K0 := Lib.hid (SB.new w H)
  go_enter Try.func22, Try.ntmps22
  go_upto_region 1 with fail
  generalize (w.alloc (Obj.cells (hC H) 23)).alloc (Obj.cells #[Value.int .i64 0, Value.int .i64 0] 25) = w1 at *
  obtain ⟨gh, hgh⟩ : ∃ g, g = w.heap.size := ⟨_, rfl⟩
  obtain ⟨gr, hgr⟩ : ∃ g, g = w.heap.size + 1 := ⟨_, rfl⟩
  have K1 := Lib.hid (show SB w w1 gh gr H from by rw [hgh, hgr]; exact K0.out)
  rw [← hgr, ← hgh]
  clear hgh hgr K0
  go_wp2_with (refine wpList_load_row rfl _ _ rfl gh rfl _ (hC H) (0, 0) _ K1.out.hb Try.underlying23 rfl (histSize' H) ?_)
  refine (CT.out w1).mono ?_
  rintro e w2 ⟨n, o, rfl, tq, st⟩
  have SQ := Lib.hid tq
  have K2 := Lib.hid (K1.out.below st)
  clear tq st K1 CT
  have PT := Lib.hid (K2.out.put 0 0)
  have KB := Lib.hid K2.out.bel
  cases o
  case false =>
    have FF := Lib.hid (show ShaR H b 0 0 2 from by
      rw [HQ.out]
      rcases SQ.out with ⟨_, a, _⟩ | ⟨a, _⟩
      · cases a
      · exact .inl ⟨a, rfl, rfl, rfl⟩)
    obtain ⟨c0, c1, fz⟩ := K2.out.cells
    have fz0 := fz 0
    have fz1 := fz 1
    clear HQ fz SQ CF
    go_wp2_with fail
    clear c0 c1 fz0 fz1
    generalize (w2.setCell ⟨gr, 0, none⟩ (.int .i64 0)).setCell ⟨gr, 1, none⟩ (.int .i64 0) = w3 at *
    obtain ⟨-, p0, p1, pb⟩ := PT.out
    exact bodyPost_ret (v := fracV 0 0 2) (by simp [results, Try.results22, go_sem, fracV, p0, p1]) rfl ⟨0, 0, 2, rfl, FF.out, pb⟩
  have ok : HOk H 64 := by
    rcases SQ.out with ⟨a, _, _⟩ | ⟨_, a⟩
    · exact a
    · cases a
  have OK := Lib.hid ok
  have BAD := Lib.hid (show ¬ (0 ≤ b ∧ b ≤ 64) → ShaR H b 0 0 2 from fun h => by rw [HQ.out]; exact .inr (.inl ⟨OK.out, h, rfl, rfl, rfl⟩))
  clear ok SQ
  by_cases bb : 0 ≤ b ∧ b ≤ 64
  case neg =>
    have FF := Lib.hid (BAD.out bb)
    have WAY : (b < 0 ∧ decide (b < 0) = true) ∨ (decide (b < 0) = false ∧ 64 < b ∧ decide (64 < b) = true) := by
      by_cases h : b < 0
      · exact .inl ⟨h, decide_eq_true h⟩
      · exact .inr ⟨decide_eq_false h, by omega, decide_eq_true (by omega)⟩
    obtain ⟨c0, c1, fz⟩ := K2.out.cells
    have fz0 := fz 0
    have fz1 := fz 1
    clear BAD HQ bb fz CF
    rcases WAY with ⟨-, d1⟩ | ⟨d1, -, d2⟩
    · go_wp2_with fail
      clear c0 c1 fz0 fz1
      generalize (w2.setCell ⟨gr, 0, none⟩ (.int .i64 0)).setCell ⟨gr, 1, none⟩ (.int .i64 0) = w3 at *
      obtain ⟨-, p0, p1, pb⟩ := PT.out
      exact bodyPost_ret (v := fracV 0 0 2) (by simp [results, Try.results22, go_sem, fracV, p0, p1]) rfl ⟨0, 0, 2, rfl, FF.out, pb⟩
    · go_wp2_with fail
      clear c0 c1 fz0 fz1
      generalize (w2.setCell ⟨gr, 0, none⟩ (.int .i64 0)).setCell ⟨gr, 1, none⟩ (.int .i64 0) = w3 at *
      obtain ⟨-, p0, p1, pb⟩ := PT.out
      exact bodyPost_ret (v := fracV 0 0 2) (by simp [results, Try.results22, go_sem, fracV, p0, p1]) rfl ⟨0, 0, 2, rfl, FF.out, pb⟩
  have d1 : decide (b < 0) = false := decide_eq_false (by omega)
  have d2 : decide (64 < b) = false := decide_eq_false (by omega)
  obtain ⟨k, rfl⟩ := Int.eq_ofNat_of_zero_le bb.1
  have k64 : k ≤ 64 := by omega
  clear BAD PT
  go_wp2_with (refine wpList_load_row rfl _ _ rfl gh rfl _ (hC H) (0, 0) _ K2.out.hb Try.underlying23 rfl (histSize' H) ?_)
  refine (CF.out w2).mono ?_
  rintro e w3 ⟨S, x, rfl, fq, st⟩
  have FQ := Lib.hid fq
  have K3 := Lib.hid (K2.out.below st)
  clear fq st CF K2 KB
  have PT := Lib.hid (K3.out.put 0 0)
  by_cases x0 : x = 0
  case neg =>
    have x1 : (x == 0) = false := by simpa using x0
    have x2 : (x != 0) = true := by simpa using x0
    have FF := Lib.hid (show ShaR H k 0 0 x from by
      rw [HQ.out]
      rcases FQ.out with ⟨a, _, _⟩ | ⟨a, c, d, _⟩ | ⟨_, _, a, _⟩
      · exact absurd OK.out a
      · exact .inr (.inr (.inl ⟨a, bb, c, d, rfl, rfl⟩))
      · exact absurd a x0)
    obtain ⟨c0, c1, fz⟩ := K3.out.cells
    have fz0 := fz 0
    have fz1 := fz 1
    clear x0 HQ fz FQ OK d1 d2 bb
    go_wp2_with fail
    clear c0 c1 fz0 fz1
    generalize (w3.setCell ⟨gr, 0, none⟩ (.int .i64 0)).setCell ⟨gr, 1, none⟩ (.int .i64 0) = w4 at *
    obtain ⟨-, p0, p1, pb⟩ := PT.out
    exact bodyPost_ret (v := fracV 0 0 x) (by simp [results, Try.results22, go_sem, fracV, p0, p1]) rfl ⟨0, 0, x, rfl, FF.out, pb⟩
  subst x0
  obtain ⟨spos, hS⟩ : 0 < S ∧ S = hsum H 64 := by
    rcases FQ.out with ⟨_, a, _⟩ | ⟨_, _, a, _⟩ | ⟨a, b, _, c⟩
    · omega
    · omega
    · exact ⟨by omega, c⟩
  have HS := Lib.hid hS
  have s1 : S ≤ 1048576 := by rw [hS]; exact OK.out.2
  have x1 : ((0 : Int) == 0) = true := by decide
  have x2 : ((0 : Int) != 0) = false := by decide
  have FG := Lib.hid (show ∀ V D E, IsFrac (hsum H k) S V D E → ShaR H k V D E from fun V D E hf => by
    rw [HQ.out]
    exact .inr (.inr (.inr ⟨OK.out, ⟨by omega, by omega⟩, by rw [← HS.out]; exact spos, k, rfl, k64, by rw [← HS.out]; exact hf⟩)))
  have NZ := Lib.hid (show ∀ k, k ≤ 64 → 0 ≤ hsum H k ∧ hsum H k ≤ S from fun k hk => ⟨hsum_nonneg (OK.out.less hk), by rw [HS.out]; exact hsum_mono OK.out.1 hk⟩)
  have HBB := Lib.hid K3.out.hb
  clear HQ FQ OK HS hS PT bb d1 d2
  go_wp2_with fail
  go_loopw [10, 11] (fun cv jv wr => ∃ j : Nat, j ≤ k ∧ jv = .int .i64 j ∧ cv = .int .i64 (hsum H j) ∧ wr = w3) (fun _ jv _ => k - (intOf jv).toNat)
  case atStart => exact ⟨0, Nat.zero_le _, rfl, rfl, rfl⟩
  case round =>
    obtain ⟨j, hj, rfl, rfl, rfl⟩ := hrel
    by_cases t1 : j < k
    · have j1 : (0 : Int) ≤ (j : Int) := by omega
      have j2 : (j : Int) < (k : Int) := by omega
      have j3 : (j : Int) < 64 := by omega
      have cj := HBB.out.cell (k := j) (by omega)
      have SS := Lib.hid (show hsum H (j + 1) = hsum H j + H j from rfl)
      have n1 := NZ.out j (by omega)
      have n2 := NZ.out (j + 1) (by omega)
      rw [SS.out] at n2
      generalize hsum H j = C at *
      generalize H j = x at *
      have wC : IntKind.i64.wrap (C + x) = C + x := hwI (by omega) (by omega)
      clear FG NZ
      go_wp2_with fail
      go_roundw
      case rel => exact ⟨j + 1, by omega, by go_num, by rw [SS.out], by first | rfl | trivial⟩
      case measure => simp [intOf]; omega
    obtain rfl : j = k := by omega
    have nk := NZ.out j k64
    generalize hsum H j = C at *
    have hs1 : false = decide (C < 0) := (decide_eq_false (by omega)).symm
    have hs2 : false = decide (S < 0) := (decide_eq_false (by omega)).symm
    have OA := Lib.hid (fun W => of_s C false hs1 (by omega) (by omega) W)
    have OC := Lib.hid (fun W => of_s S false hs2 (by omega) (by omega) W)
    have LO := Lib.hid (fun p q c e l m W (A : BigR 5 W p l C) (B : BigR 5 W q m S) => Lowest_any p q c e l m C S W A B (by omega) (by omega))
    rw [← hs1, ← hs2] at LO
    clear hs1 hs2 NZ HBB nk s1 spos
    go_wp2_with fail
    refine (OA.out _).mono ?_
    rintro e v1 ⟨p1, l1, c1, rfl, r1, -, r3⟩
    have X1 := Lib.hid r1
    have K4 := Lib.hid (K3.out.below r3)
    clear r1 r3
    go_wp2_with fail
    refine (OC.out _).mono ?_
    rintro e v2 ⟨p2, l2, c2, rfl, r1, -, r3⟩
    replace X1 := Lib.hid (X1.out.below r3)
    have X2 := Lib.hid r1
    replace K4 := Lib.hid (K4.out.below r3)
    clear r1 r3
    go_wp2_with fail
    refine (LO.out _ _ _ _ _ _ _ X1.out X2.out).mono ?_
    rintro e v3 ⟨V, D, E, hF, rfl, r3⟩
    have FF := Lib.hid (FG.out V D E hF)
    replace K4 := Lib.hid (K4.out.below r3)
    unfold fracV
    obtain ⟨c0, c1, fz⟩ := K4.out.cells
    have fz0 := fz 0
    have fz1 := fz 1
    have PT := Lib.hid (K4.out.put V D)
    clear r3 hF fz K3 K4 OA OC LO X1 X2 FG
    go_wp2_with fail
    clear c0 c1 fz0 fz1
    generalize (v3.setCell ⟨gr, 0, none⟩ (.int .i64 V)).setCell ⟨gr, 1, none⟩ (.int .i64 D) = v4 at *
    obtain ⟨-, p0, p1, pb⟩ := PT.out
    exact bodyPost_ret (v := fracV V D E) (by simp [results, Try.results22, go_sem, fracV, p0, p1]) rfl ⟨V, D, E, rfl, FF.out, pb⟩
end Go.Proofs.Ytbcfafihkdddeaa
