/- Classing's lines: the reference's order. -/
import Derived.Test.YtmdhmpfagekonaaLC
import Derived.Test.YtmdhmpfagekonaaLP
import Derived.Test.YtmdhmpfagekonaaLD
/- Classing's lines: the reference's comparison of two fleeces. -/
namespace Go.Proofs.Ytmdhmpfagekonaa
open Go.RowKit Go.Proofs.Ytmdhmpfagekonaa.Ct Go.Proofs.Ytmdhmpfagekonaa.Ce Go.Proofs.Ytmdhmpfagekonaa.Stb
set_option linter.unusedVariables false
set_option linter.unusedSimpArgs false

def by4 (s : Fl) (i : Nat) : Int := if i = 0 then s.ka else if i = 1 then s.kb else if i = 2 then s.kc else s.kd
theorem flC_by4 (s : Fl) {i : Nat} (h : i < 4) : flC s i = .int .u8 (by4 s i) := by
  rcases (show i = 0 ∨ i = 1 ∨ i = 2 ∨ i = 3 by omega) with rfl | rfl | rfl | rfl <;> rfl
theorem by4_lt {s t : Fl} (hs : s.ok) (ht : t.ok) (ks : s.kok) (kt : t.kok) {i : Nat} (i4 : i < 4) (e : ∀ j, j < i → by4 s j = by4 t j) (ne : by4 s i ≠ by4 t i) : s.key < t.key ↔ by4 s i < by4 t i := by
  have k1 := kk_lt ks kt
  have k2 := kk_eq ks kt
  have k3 := key_lt hs ht
  have q0 := e 0
  have q1 := e 1
  have q2 := e 2
  rcases (show i = 0 ∨ i = 1 ∨ i = 2 ∨ i = 3 by omega) with rfl | rfl | rfl | rfl <;> simp [by4] at q0 q1 q2 ne ⊢ <;> omega
theorem by4_eq {s t : Fl} (hs : s.ok) (ht : t.ok) (ks : s.kok) (kt : t.kok) (e : ∀ j, j < 4 → by4 s j = by4 t j) : s.key < t.key ↔ s.mic < t.mic := by
  have k2 := kk_eq ks kt
  have k3 := key_lt hs ht
  have q0 := e 0
  have q1 := e 1
  have q2 := e 2
  have q3 := e 3
  simp [by4] at q0 q1 q2 q3
  omega

set_option maxRecDepth 100000 in
set_option maxHeartbeats 8000000 in
theorem ahead_any (s t : Fl) (hs : s.ok) (ht : t.ok) (ks : s.kok) (kt : t.kok) (w : World) :
    Calls Try.prog 41 #[.agg #[.int .u8 s.ka, .int .u8 s.kb, .int .u8 s.kc, .int .u8 s.kd, .int .i64 s.mic, .int .i64 s.gr], .agg #[.int .u8 t.ka, .int .u8 t.kb, .int .u8 t.kc, .int .u8 t.kd, .int .i64 t.mic, .int .i64 t.gr]] w fun e w' => e = .returned (.bool (decide (s.key < t.key))) ∧ Below w.heap.size w w' := by
  have T := Lib.hid (twoF_a w w s t (Below.refl _ _))
  have L4 := Lib.hid (fun i h e ne => by4_lt hs ht ks kt (i := i) h e ne)
  have E4 := Lib.hid (fun e => by4_eq hs ht ks kt e)
  clear hs ht ks kt
  go_enter Try.func41, Try.ntmps41
  go_upto_region 1 with fail
  generalize ((w.alloc (Obj.cells #[.int .u8 s.ka, .int .u8 s.kb, .int .u8 s.kc, .int .u8 s.kd, .int .i64 s.mic, .int .i64 s.gr] 55)).alloc (Obj.cells #[.int .u8 t.ka, .int .u8 t.kb, .int .u8 t.kc, .int .u8 t.kd, .int .i64 t.mic, .int .i64 t.gr] 55)) = wa at *
  go_wp2_with fail
  go_loopw [5] (fun kv wr => ∃ i : Nat, i ≤ 4 ∧ kv = .int .i64 i ∧ Hid (∀ j, j < i → by4 s j = by4 t j) ∧ Hid (TwoF w wr w.heap.size (w.heap.size + 1) s t)) (fun kv _ => 4 - (intOf kv).toNat)
  case atStart => exact ⟨0, Nat.zero_le _, rfl, Lib.hid fun j h => absurd h (by omega), T⟩
  case round =>
    clear T
    obtain ⟨i, hi, rfl, HE, T⟩ := hrel
    by_cases t1 : i < 4
    case pos =>
      have i1 : (0 : Int) ≤ (i : Int) := by omega
      have i2 : (i : Int) < 4 := by omega
      have cs := (T.out.1.cell (k := i) (by omega)).trans (by rw [flC_by4 s t1])
      have ct := (T.out.2.1.cell (k := i) (by omega)).trans (by rw [flC_by4 t t1])
      have LL := Lib.hid (L4.out i t1 HE.out)
      have EE := Lib.hid (show by4 s i = by4 t i → ∀ j, j < i + 1 → by4 s j = by4 t j from fun h j hj => by
        by_cases e : j = i
        · rw [e]; exact h
        · exact HE.out j (by omega))
      generalize by4 s i = x at *
      generalize by4 t i = y at *
      by_cases z : x = y
      · subst z
        have E2 := Lib.hid (EE.out rfl)
        clear LL EE HE
        go_upto_region 4 with fail
        go_quiet (fail)
        go_wp2_with fail
        go_roundw
        case rel => exact ⟨i + 1, by omega, by go_num, E2, (by first | exact Lib.hid T.out.dr | exact Lib.hid (T.out.call (below_drewN (Below.refl _ _) _)))⟩
        case measure => simp [intOf]; omega
      · have d1 : (x != y) = true := by simpa using z
        have D := Lib.hid (LL.out z)
        have F := Lib.hid T.out.2.2
        clear LL EE z HE L4 E4 T
        obtain ⟨bb, hb⟩ : ∃ b, b = decide (x < y) := ⟨_, rfl⟩
        have DD := Lib.hid (show bb = decide (s.key < t.key) from by rw [hb]; exact decide_eq_decide.2 D.out.symm)
        have hb2 : decide (x < y) = bb := hb.symm
        clear D hb
        go_upto_region 4 with fail
        go_quiet (fail)
        go_upto_region 5 with fail
        go_quiet (fail)
        go_wp2_with fail
        go_ret
        rw [← DD.out]
        exact ⟨by simp [hb2], (by first | exact below_drewN (below_drewN F.out _) _ | exact below_drewN F.out _)⟩
    obtain rfl : i = 4 := by omega
    have cs : wr.cell? ⟨w.heap.size, 4, none⟩ = some (.int .i64 s.mic) := T.out.1.cell (k := 4) (by decide)
    have ct : wr.cell? ⟨w.heap.size + 1, 4, none⟩ = some (.int .i64 t.mic) := T.out.2.1.cell (k := 4) (by decide)
    have F := Lib.hid T.out.2.2
    have D := Lib.hid (E4.out HE.out)
    have DD := Lib.hid (show decide (s.mic < t.mic) = decide (s.key < t.key) from decide_eq_decide.2 D.out.symm)
    clear L4 E4 HE T D
    go_wp2_with fail
    go_ret
    rw [← DD.out]
    exact ⟨rfl, F.out⟩
end Go.Proofs.Ytmdhmpfagekonaa

/- Classing's lines: the reference's order. -/
namespace Go.Proofs.Ytmdhmpfagekonaa
open Go.RowKit Go.Proofs.Ytmdhmpfagekonaa.Ct Go.Proofs.Ytmdhmpfagekonaa.Ce Go.Proofs.Ytmdhmpfagekonaa.Stb
set_option linter.unusedVariables false
set_option linter.unusedSimpArgs false

theorem drop_atD {l : List Int} {i : Nat} (h : i < l.length) : l.drop i = gi l i :: l.drop (i + 1) := by
  rw [gi_lt h]
  exact List.drop_eq_getElem_cons h
theorem own_ltD {w : World} {base : Nat} {e : TypeId} {s : Nat} {v : Value} {n : Nat} {xs : List Value} (h : w.ownsRow base e s v n xs) : ∀ k, v.ownBlock = some k → base ≤ k := fun k ek => (World.ownsRow.lt h k ek).1
theorem own_snocD {W w w2 : World} {v v' : Value} {k : Nat} {l : List Int} {x : Int} (o : Obj) (hb : Below W.heap.size W w) (hown : w.ownsRow W.heap.size 3 1 v k (l.map (Value.int .i64)))
    (h1 : w2.ownsRow W.heap.size 3 1 v' (k + 1) (l.map (Value.int .i64) ++ [.int .i64 x])) (h2 : (w.alloc o).grownBy w2 v.ownBlock) :
    w2.ownsRow W.heap.size 3 1 v' (k + 1) ((l ++ [x]).map (Value.int .i64)) ∧ Below W.heap.size W w2 :=
  ⟨by simpa using h1, (hb.alloc hb.size o).grown h2 (by have := hb.size; simp; omega) (own_ltD hown)⟩
theorem own_belowD {w w' : World} {base : Nat} {e : TypeId} {s : Nat} {v : Value} {n : Nat} {xs : List Value} (h : w.ownsRow base e s v n xs) (hb : Below w.heap.size w w') : w'.ownsRow base e s v n xs := by
  refine ⟨h.1, ?_⟩
  rcases h.2 with h0 | ⟨g, cap, cur, rfl, hbg, hg, r⟩
  · exact .inl h0
  · exact .inr ⟨g, cap, cur, rfl, hbg, by rw [hb.block g (by have := (Array.getElem?_eq_some_iff.1 hg).1; exact this)]; exact hg, r⟩
theorem one_cell {w : World} (x : Int) : ∀ j u, ([Value.int .i64 x])[j]? = some u → (w.alloc (Obj.cells #[Value.int .i64 x] 3)).cell? ((⟨w.heap.size, 0, none⟩ : Addr).add j) = some u := by
  intro j u h
  rcases j with _ | j
  · simp at h; subst h; rw [add0]; simp [go_sem]
  · simp at h
theorem one_one {x : Int} : ∀ u ∈ [Value.int .i64 x], u.oneCell' = true := by intro u hu; simp at hu; subst hu; rfl
theorem ownNums {W : World} {b : Nat} {t : TypeId} {v : Value} {M : List Int} (h : W.ownsRow b t 1 v M.length (M.map (Value.int .i64))) : ∃ p c, v = .slice p M.length c ∧ NmR W p M.length (gi M) := by
  rcases h.2 with ⟨rfl, h0⟩ | ⟨g, cap, cur, rfl, hb, hg, hn, _, hs, ht⟩
  · exact ⟨none, 0, by rw [h0], fun i hi => by omega⟩
  · refine ⟨_, _, rfl, fun i hi => ⟨⟨g, 0, none⟩, rfl, (Array.getElem?_eq_some_iff.1 hg).1, ?_⟩⟩
    rw [add0, cellAt hg]
    have e : (M.map (Value.int .i64))[i]? = some (.int .i64 (gi M i)) := by simp [gi, hi]
    rw [← e, ← ht, List.getElem?_take_of_lt (by omega)]; simp
where cellAt {W : World} {b o : Nat} {c : Array Value} {t : TypeId} (h : W.heap[b]? = some (.cells c t (0, 0))) : W.cell? ⟨b, o, none⟩ = c[o]? := by simp [World.cell?, h]

theorem own_blk {w : World} {base : Nat} {e : TypeId} {m : Nat} {p : Option Addr} {k c n : Nat} {xs : List Value} (h : w.ownsRow base e m (.slice p k c) n xs) : ∀ x, p = some x → base ≤ x.block ∧ x.block < w.heap.size := fun x hx => by
  subst hx
  have := World.ownsRow.lt h x.block (by rfl)
  exact ⟨this.1, this.2⟩

set_option maxRecDepth 100000 in
set_option maxHeartbeats 8000000 in
theorem rOrder_any (p : Option Addr) (c n : Nat) (F : Nat → Fl) (w : World) (r : FlR w p n F) (ln : n ≤ 140) (ok : ∀ k, k < n → (F k).ok) (kok : ∀ k, k < n → (F k).kok) :
    Calls Try.prog 30 #[.slice p n c] w fun e w' => ∃ q d, e = .returned (.slice q n d) ∧ NmR w' q n (gi (ordK (fun k => (F k).key) n)) ∧ Below w.heap.size w w' ∧ ∀ x, q = some x → w.heap.size ≤ x.block := by
  obtain ⟨i0, hi, hz0, hz1, hz2⟩ := info_parts intInfo
  have R := Lib.hid r
  have OK := Lib.hid ok
  have KOK := Lib.hid kok
  clear r ok kok
  go_enter Try.func30, Try.ntmps30
  go_wp2_with fail
  go_loopw [3, 4] (fun ov nv wr => ∃ (i c : Nat) (q : Option Addr), i ≤ n ∧ nv = .int .i64 i ∧ ov = .slice q i c ∧ Hid (NmR wr q i (gi (ordK (fun k => (F k).key) i))) ∧ Hid (Below w.heap.size w wr) ∧ Hid (∀ x, q = some x → w.heap.size ≤ x.block)) (fun _ nv _ => n - (intOf nv).toNat)
  case atStart => exact ⟨0, 0, none, Nat.zero_le _, rfl, rfl, Lib.hid (fun i h => by simp at h), Lib.hid (Below.refl _ _), Lib.hid (fun x e => by cases e)⟩
  case round =>
    obtain ⟨i, cc, q, hi', rfl, rfl, NO, HB, HQ⟩ := hrel
    by_cases t1 : i < n
    · have i1 : (0 : Int) ≤ (i : Int) := by omega
      have i2 : (i : Int) < (n : Int) := by omega
      have T1 := Lib.hid t1
      have LO := Lib.hid (ordK_len (fun k => (F k).key) i)
      have VO := Lib.hid (show ∀ k, k < i → 0 ≤ gi (ordK (fun k => (F k).key) i) k ∧ gi (ordK (fun k => (F k).key) i) k < i from fun k hk => (ordK_ord (q := fun k => (F k).key) i).2.1 k hk)
      have SO := Lib.hid (show insK (fun k => (F k).key) (i : Int) (ordK (fun k => (F k).key) i) = ordK (fun k => (F k).key) (i + 1) from rfl)
      generalize ordK (fun k => (F k).key) i = O at *
      clear hi'
      rename World => wo
      go_wp2_with fail
      go_loopw [5, 6, 7] (fun xv bv kv wq => ∃ (k : Nat) (b : Bool) (N : List Int), k ≤ i ∧ kv = .int .i64 k ∧ bv = .bool b ∧ N.length ≤ k + b.toNat ∧ Hid (N ++ (if b then O.drop k else insK (fun k => (F k).key) i (O.drop k)) = insK (fun k => (F k).key) i O) ∧ wq.ownsRow wo.heap.size 3 1 xv N.length (N.map (Value.int .i64)) ∧ Below wo.heap.size wo wq) (fun _ _ kv _ => i - (intOf kv).toNat)
      case atStart => exact ⟨0, false, [], Nat.zero_le _, rfl, rfl, by simp, Lib.hid rfl, World.ownsRow_nil _ _ _ _, Below.refl _ _⟩
      case round =>
        obtain ⟨k, b, N, hk, rfl, rfl, hak, E, hown, hbel⟩ := hrel
        rename World => wx
        have hbs : ∀ (W : World) o, Below wo.heap.size wo W → wo.heap.size ≤ (W.alloc o).heap.size := fun W o B => by have := B.size; simp; omega
        by_cases t2 : k < i
        · have k1 : (0 : Int) ≤ (k : Int) := by omega
          have k2 : (k : Int) < (i : Int) := by omega
          have DA := Lib.hid (drop_atD (l := O) (i := k) (by have := LO.out; omega))
          obtain ⟨y, rfl, ky, cy⟩ := (NO.out.below hbel) k t2
          obtain ⟨u, hu⟩ := Int.eq_ofNat_of_zero_le (VO.out k t2).1
          have ui : u < i := by have := (VO.out k t2).2; omega
          have un : u < n := by have := T1.out; omega
          rw [hu] at cy DA
          have HU := Lib.hid hu
          cases b with
          | true =>
            replace hak : N.length ≤ k + 1 := hak
            have E2 := Lib.hid (show (N ++ [(u : Int)]) ++ (if true = true then O.drop (k + 1) else insK (fun k => (F k).key) i (O.drop (k + 1))) = insK (fun k => (F k).key) i O from by
              rw [← E.out, if_pos rfl, if_pos rfl, DA.out]; simp)
            clear E DA hu
            go_upto_region 10 with fail
            go_quiet (fail)
            have HO := Lib.hid (show (wx.drewN nq).ownsRow wo.heap.size 3 1 u5 N.length (N.map (Value.int .i64)) from hown)
            have HL := Lib.hid (below_drewN hbel nq)
            replace cy : (wx.drewN nq).cell? (y.add k) = some (.int .i64 (u : Int)) := cy
            clear hown hbel
            generalize wx.drewN nq = wn at *
            go_wp2_with (first
              | (at_builtin; refine wpList_append_own _ rfl _ _ 36 rfl wo.heap.size 3 i0 (.int .i64 0) 1 8 Try.underlying36 hi hz0 hz1 hz2 rfl (by decide) _ _ _ rfl (HO.out.alloc _) ⟨wn.heap.size, 0, none⟩ 1 1 [.int .i64 (u : Int)] rfl rfl (one_cell _) one_one (by unfold maxLen; omega) (by omega) (hbs _ _ HL.out) ?_))
            intro v' w1 hown' hgrow _
            obtain ⟨O1, B1⟩ := own_snocD _ HL.out HO.out hown' hgrow
            clear hown' hgrow HO HL hbs
            go_wp2_with fail
            go_roundw
            case rel => exact ⟨k + 1, true, N ++ [(u : Int)], by omega, by go_num, rfl, by simp [Bool.toNat]; omega, E2, by simpa using O1, B1⟩
            case measure => simp [intOf]; omega
          | false =>
            replace hak : N.length ≤ k := hak
            obtain ⟨x, rfl, -⟩ := R.out i T1.out
            obtain ⟨-, a0, a1, a2, a3, a4, a5⟩ := (R.out.below (HB.out.trans (hbel.mono HB.out.size))).at1 T1.out rfl
            obtain ⟨-, b0, b1, b2, b3, b4, b5⟩ := (R.out.below (HB.out.trans (hbel.mono HB.out.size))).at1 un rfl
            have u1 : (0 : Int) ≤ (u : Int) := by omega
            have u2 : (u : Int) < (n : Int) := by omega
            have i3 : (i : Int) < (n : Int) := by omega
            have FR := Lib.hid (show dk (fun k => (F k).key) (i : Int) (u : Int) < 0 ↔ (F i).key < (F u).key from by unfold dk; dsimp only; rw [Int.toNat_natCast, Int.toNat_natCast]; omega)
            have CA := Lib.hid (fun W => ahead_any (F i) (F u) (OK.out i T1.out) (OK.out u un) (KOK.out i T1.out) (KOK.out u un) W)
            have HH := Lib.hid (show wx.ownsRow wo.heap.size 3 1 u5 N.length (N.map (Value.int .i64)) ∧ Below wo.heap.size wo wx from ⟨hown, hbel⟩)
            have IC := Lib.hid (insK_cons (fun k => (F k).key) (i : Int) (u : Int) (O.drop (k + 1)))
            clear hu ui hown hbel
            obtain ⟨bb, hb⟩ : ∃ bb, bb = decide ((F i).key < (F u).key) := ⟨_, rfl⟩
            rw [← hb] at CA
            have HBB := Lib.hid hb
            clear hb
            generalize F i = su at *
            generalize F u = sv at *
            go_upto_region 10 with fail
            go_region_held3 (fun w' => w'.cell? (y.add k) = some (.int .i64 (u : Int)) ∧ w'.cell? (x.add (i * 6)) = some (.int .u8 su.ka) ∧ w'.cell? ⟨(x.add (i * 6)).block, (x.add (i * 6)).off + 1, none⟩ = some (.int .u8 su.kb) ∧ w'.cell? ⟨(x.add (i * 6)).block, (x.add (i * 6)).off + 2, none⟩ = some (.int .u8 su.kc) ∧ w'.cell? ⟨(x.add (i * 6)).block, (x.add (i * 6)).off + 3, none⟩ = some (.int .u8 su.kd) ∧ w'.cell? ⟨(x.add (i * 6)).block, (x.add (i * 6)).off + 4, none⟩ = some (.int .i64 su.mic) ∧ w'.cell? ⟨(x.add (i * 6)).block, (x.add (i * 6)).off + 5, none⟩ = some (.int .i64 su.gr) ∧ w'.cell? (x.add (u * 6)) = some (.int .u8 sv.ka) ∧ w'.cell? ⟨(x.add (u * 6)).block, (x.add (u * 6)).off + 1, none⟩ = some (.int .u8 sv.kb) ∧ w'.cell? ⟨(x.add (u * 6)).block, (x.add (u * 6)).off + 2, none⟩ = some (.int .u8 sv.kc) ∧ w'.cell? ⟨(x.add (u * 6)).block, (x.add (u * 6)).off + 3, none⟩ = some (.int .u8 sv.kd) ∧ w'.cell? ⟨(x.add (u * 6)).block, (x.add (u * 6)).off + 4, none⟩ = some (.int .i64 sv.mic) ∧ w'.cell? ⟨(x.add (u * 6)).block, (x.add (u * 6)).off + 5, none⟩ = some (.int .i64 sv.gr)) (first | exact ⟨cy, a0, a1, a2, a3, a4, a5, b0, b1, b2, b3, b4, b5⟩ | exact ⟨cellDr cy, cellDr a0, cellDr a1, cellDr a2, cellDr a3, cellDr a4, cellDr a5, cellDr b0, cellDr b1, cellDr b2, cellDr b3, cellDr b4, cellDr b5⟩) (first
              | ((go_at_call 41; (with_reducible refine (CA.out _).mono ?_); rintro e w2 ⟨rfl, q2⟩; have st : Below wx.heap.size wx w2 := (by first | exact q2 | exact (Below.refl _ _).drew.trans q2); have cy := cellGr st cy; have a0 := cellGr st a0; have a1 := cellGr st a1; have a2 := cellGr st a2; have a3 := cellGr st a3; have a4 := cellGr st a4; have a5 := cellGr st a5; have b0 := cellGr st b0; have b1 := cellGr st b1; have b2 := cellGr st b2; have b3 := cellGr st b3; have b4 := cellGr st b4; have b5 := cellGr st b5; have ST := Lib.hid st; clear q2 st)))
            clear a0 a1 a2 a3 a4 a5 b0 b1 b2 b3 b4 b5
            have HO := Lib.hid (own_belowD HH.out.1 ST.out)
            have HL := Lib.hid (HH.out.2.trans (ST.out.mono HH.out.2.size))
            clear HH ST CA
            cases bb with
            | true =>
              have fr : su.key < sv.key := of_decide_eq_true HBB.out.symm
              have E2 := Lib.hid (show ((N ++ [(i : Int)]) ++ [(u : Int)]) ++ (if true = true then O.drop (k + 1) else insK (fun k => (F k).key) i (O.drop (k + 1))) = insK (fun k => (F k).key) i O from by
                have hh := FR.out.2 fr
                rw [← E.out, DA.out, IC.out, if_pos hh]; simp)
              clear E DA fr FR IC HBB
              have lN1 : (N ++ [(i : Int)]).length = N.length + 1 := by simp
              go_wp2_with (first
                | (at_builtin; refine wpList_append_own _ rfl _ _ 36 rfl wo.heap.size 3 i0 (.int .i64 0) 1 8 Try.underlying36 hi hz0 hz1 hz2 rfl (by decide) _ _ _ rfl (HO.out.alloc _) ⟨w2.heap.size, 0, none⟩ 1 1 [.int .i64 (i : Int)] rfl rfl (one_cell _) one_one (by unfold maxLen; omega) (by omega) (hbs _ _ HL.out) ?_))
              intro v' w1 hown' hgrow _
              obtain ⟨O1, B1⟩ := own_snocD _ HL.out HO.out hown' hgrow
              obtain ⟨y', ey, ky, cy⟩ := (NO.out.below B1) k t2
              cases ey
              rw [HU.out] at cy
              clear hown' hgrow HO HL
              generalize hN1 : N ++ [(i : Int)] = N1 at *
              have HN1 := Lib.hid hN1
              clear hN1
              go_wp2_with (first
                | (at_builtin; refine wpList_append_own _ rfl _ _ 36 rfl wo.heap.size 3 i0 (.int .i64 0) 1 8 Try.underlying36 hi hz0 hz1 hz2 rfl (by decide) _ _ _ rfl (O1.alloc _) ⟨w1.heap.size, 0, none⟩ 1 1 [.int .i64 (u : Int)] rfl rfl (one_cell _) one_one (by unfold maxLen; omega) (by omega) (hbs _ _ B1) ?_))
              intro v'' w2 hown' hgrow _
              obtain ⟨O2, B2⟩ := own_snocD _ B1 O1 hown' hgrow
              clear hown' hgrow O1 B1 hbs
              go_wp2_with fail
              go_roundw
              case rel => exact ⟨k + 1, true, N1 ++ [(u : Int)], by omega, by go_num, rfl, by simp [Bool.toNat]; omega, E2, by rw [List.length_append, lN1]; exact O2, B2⟩
              case measure => simp [intOf]; omega
            | false =>
              have fr : ¬ su.key < sv.key := of_decide_eq_false HBB.out.symm
              have E2 := Lib.hid (show (N ++ [(u : Int)]) ++ (if false = true then O.drop (k + 1) else insK (fun k => (F k).key) i (O.drop (k + 1))) = insK (fun k => (F k).key) i O from by
                have hh : ¬ dk (fun k => (F k).key) (i : Int) (u : Int) < 0 := fun h => fr (FR.out.1 h)
                rw [← E.out, DA.out, IC.out, if_neg hh]; simp)
              clear E DA fr FR IC HBB
              go_wp2_with (first
                | (at_builtin; refine wpList_append_own _ rfl _ _ 36 rfl wo.heap.size 3 i0 (.int .i64 0) 1 8 Try.underlying36 hi hz0 hz1 hz2 rfl (by decide) _ _ _ rfl (HO.out.alloc _) ⟨w2.heap.size, 0, none⟩ 1 1 [.int .i64 (u : Int)] rfl rfl (one_cell _) one_one (by unfold maxLen; omega) (by omega) (hbs _ _ HL.out) ?_))
              intro v' w1 hown' hgrow _
              obtain ⟨O1, B1⟩ := own_snocD _ HL.out HO.out hown' hgrow
              clear hown' hgrow HO HL hbs
              go_wp2_with fail
              go_roundw
              case rel => exact ⟨k + 1, false, N ++ [(u : Int)], by omega, by go_num, rfl, by simp [Bool.toNat]; omega, E2, by simpa using O1, B1⟩
              case measure => simp [intOf]; omega
        · obtain rfl : k = i := by omega
          rw [show O.drop k = [] from List.drop_of_length_le (by have := LO.out; omega)] at E
          cases b with
          | true =>
            replace hak : N.length ≤ k + 1 := hak
            have EN : N = insK (fun k => (F k).key) (k : Int) O := by have := E.out; simpa using this
            have LN := Lib.hid (show N.length = k + 1 from by rw [EN, insK_len]; have := LO.out; omega)
            rw [SO.out] at EN
            have HE := Lib.hid EN
            clear EN E hbs
            obtain ⟨q', d', rfl, nr⟩ := ownNums (M := N) hown
            have HQ' := Lib.hid (fun x hx => Nat.le_trans HB.out.size (own_blk hown x hx).1)
            rw [LN.out]
            rw [LN.out] at nr
            have NR := Lib.hid nr
            have HB2 := Lib.hid (HB.out.trans (hbel.mono HB.out.size))
            clear nr hown hbel
            go_wp2_with fail
            go_roundw
            case rel => exact ⟨k + 1, d', q', by have := T1.out; omega, by go_num, by first | rfl | trivial, by rw [← HE.out]; exact NR, HB2, HQ'⟩
            case measure => have := T1.out; simp [intOf]; omega
          | false =>
            replace hak : N.length ≤ k := hak
            have EN : N ++ [(k : Int)] = insK (fun k => (F k).key) (k : Int) O := by have := E.out; simpa [insK] using this
            have LN := Lib.hid (show (N ++ [(k : Int)]).length = k + 1 from by rw [EN, insK_len]; have := LO.out; omega)
            rw [SO.out] at EN
            have HE := Lib.hid EN
            clear EN E
            go_wp2_with (first
              | (at_builtin; refine wpList_append_own _ rfl _ _ 36 rfl wo.heap.size 3 i0 (.int .i64 0) 1 8 Try.underlying36 hi hz0 hz1 hz2 rfl (by decide) _ _ _ rfl (hown.alloc _) ⟨wx.heap.size, 0, none⟩ 1 1 [.int .i64 (k : Int)] rfl rfl (one_cell _) one_one (by unfold maxLen; omega) (by omega) (hbs _ _ hbel) ?_))
            intro v' w1 hown' hgrow _
            obtain ⟨O1, B1⟩ := own_snocD _ hbel hown hown' hgrow
            clear hown' hgrow hown hbel hbs
            obtain ⟨q', d', rfl, nr⟩ := ownNums (M := N ++ [(k : Int)]) (by simpa using O1)
            have HQ' := Lib.hid (fun x hx => Nat.le_trans HB.out.size (own_blk O1 x hx).1)
            rw [LN.out]
            rw [LN.out] at nr
            have NR := Lib.hid nr
            have HB2 := Lib.hid (HB.out.trans (B1.mono HB.out.size))
            clear nr O1 B1
            go_wp2_with fail
            go_roundw
            case rel => exact ⟨k + 1, d', q', by have := T1.out; omega, by go_num, by first | rfl | trivial, by rw [← HE.out]; exact NR, HB2, HQ'⟩
            case measure => have := T1.out; simp [intOf]; omega
    · obtain rfl : i = n := by omega
      go_wp2_with fail
      go_ret
      exact ⟨q, cc, rfl, NO.out, HB.out, HQ.out⟩
end Go.Proofs.Ytmdhmpfagekonaa
