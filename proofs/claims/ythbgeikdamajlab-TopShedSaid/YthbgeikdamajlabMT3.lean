/- Press: OnTime. -/
import Derived.Test.YthbgeikdamajlabMT2
/- Press: the reference's OnTime. -/
namespace Go.Proofs.Ythbgeikdamajlab
open Go.RowKit Go.Proofs.Ythbgeikdamajlab.Prs Go.Proofs.Ythbgeikdamajlab.Stb
set_option linter.unusedVariables false
set_option linter.unusedSimpArgs false

/-- What OnTime answers, in the reference; the order is that by due times. -/
def ROnQ (D : List (Int × Int)) (w : World) (e : Ending) (w' : World) : Prop := ∃ x v1 v2, e = .returned (.tuple #[v1, v2, .int .i64 x]) ∧ KErr D x ∧ Below w.heap.size w w' ∧ (x ≠ 0 → v1 = .slice none 0 0 ∧ v2 = .slice none 0 0) ∧
  (x = 0 → ∃ q c q' c', v1 = .slice q (kept D (dueO D D.length) D.length).length c ∧ v2 = .slice q' (left (kept D (dueO D D.length) D.length) D.length).length c' ∧ NumR w' q (kept D (dueO D D.length) D.length) ∧ NumR w' q' (left (kept D (dueO D D.length) D.length) D.length))
theorem KErr.good {D : List (Int × Int)} (h : KErr D 0) : D.length ≤ 64 ∧ TkOk D D.length := by
  rcases h with ⟨_, h⟩ | ⟨a, b, _⟩ | ⟨_, _, h⟩
  · omega
  · exact ⟨a, b⟩
  · omega

end Go.Proofs.Ythbgeikdamajlab

/- Press: the comparison of OnTime: by due times. -/
namespace Go.Proofs.Ythbgeikdamajlab
open Go.RowKit Go.Proofs.Ythbgeikdamajlab.Prs Go.Proofs.Ythbgeikdamajlab.Stb
set_option linter.unusedVariables false
set_option linter.unusedSimpArgs false

def ocD (D : List (Int × Int)) (x y : Int) : Int := cmpV (sd D x.toNat) (sd D y.toNat)

set_option maxRecDepth 100000 in
set_option maxHeartbeats 4000000 in
theorem dueLess_any (X : Nat) (p : Option Addr) (c : Nat) (D : List (Int × Int)) (B : Nat) (x y : Int) (w : World) (h : KpD X p c D B w) (hx : 0 ≤ x ∧ x < D.length) (hy : 0 ≤ y ∧ y < D.length) (ln : D.length ≤ 1000000) :
    Calls Try.prog 26 #[.int .i64 x, .int .i64 y, .pointer (some ⟨X, 0, none⟩)] w fun e w' => e = .returned (.int .i64 (ocD D x y)) ∧ Below w.heap.size w w' := by
  obtain ⟨cX, r, -, -⟩ := h
  obtain ⟨u, rfl⟩ := Int.eq_ofNat_of_zero_le hx.1
  obtain ⟨v, rfl⟩ := Int.eq_ofNat_of_zero_le hy.1
  obtain ⟨xa, rfl, kx, -, a1⟩ := r u (by omega)
  obtain ⟨xb, e, -, -, b1⟩ := r v (by omega)
  cases e
  have JC := Lib.hid (fun W => cmpI_any (sd D u) (sd D v) W)
  have JE := Lib.hid (show ocD D (u : Int) (v : Int) = cmpV (sd D u) (sd D v) by unfold ocD; rw [Int.toNat_natCast, Int.toNat_natCast])
  obtain ⟨n, hn⟩ : ∃ n, n = D.length := ⟨_, rfl⟩
  rw [← hn] at hx hy cX ln
  have u1 : (0 : Int) ≤ (u : Int) := by omega
  have u2 : (u : Int) < (n : Int) := by omega
  have v1 : (0 : Int) ≤ (v : Int) := by omega
  have v2 : (v : Int) < (n : Int) := by omega
  rw [JE.out]
  clear JE hn hx hy r kx
  generalize cmpV (sd D u) (sd D v) = z at *
  generalize sd D u = sa at *
  generalize sd D v = sb at *
  go_enter Try.func26, Try.ntmps26
  go_wp2_with fail
  go_region_held3 (fun w' => w'.cell? ⟨X, 0, none⟩ = some (.slice (some xa) n c) ∧ w'.cell? ⟨(xa.add (u * 2)).block, (xa.add (u * 2)).off + 1, none⟩ = some (.int .i64 sa) ∧ w'.cell? ⟨(xa.add (v * 2)).block, (xa.add (v * 2)).off + 1, none⟩ = some (.int .i64 sb)) (first | exact ⟨cX, a1, b1⟩ | exact ⟨cellDr cX, cellDr a1, cellDr b1⟩) (first | (go_at_call 27; refine (JC.out _).mono ?_; rintro e w1 ⟨rfl, st⟩; have st : Below w.heap.size w w1 := (by subst st; first | exact Below.refl _ _ | exact (Below.refl _ _).drew); have cX := cellGr st cX; have a1 := cellGr st a1; have b1 := cellGr st b1))
  go_wp2_with fail
  go_ret
  exact ⟨rfl, st⟩
/-- The order of the program is the order by due times. -/
theorem oc_key (D : List (Int × Int)) (x y : Int) : (ocD D x y < 0 ∨ (ocD D x y = 0 ∧ x < y)) ↔ RDu D x y := by
  unfold ocD RDu dcD cmpV
  by_cases c1 : sd D x.toNat < sd D y.toNat
  · rw [if_pos c1]; omega
  · rw [if_neg c1]
    by_cases c2 : sd D y.toNat < sd D x.toNat
    · rw [if_pos c2]; omega
    · rw [if_neg c2]; omega
theorem oc_neg (D : List (Int × Int)) (x y : Int) (h : x < y) : ocD D y x < 0 ↔ RDu D y x := by
  rw [← oc_key]; omega
theorem rdu_tot (D : List (Int × Int)) (V : Int → Prop) : Tot (RDu D) V :=
  ⟨fun x y z _ _ _ a b => rd_tr a b, fun x y _ _ ne n => by
    rcases rd_tot3 (D := D) ne with h | h
    · exact absurd h n
    · exact h⟩
end Go.Proofs.Ythbgeikdamajlab

/- Press: OnTime. -/
namespace Go.Proofs.Ythbgeikdamajlab
open Go.RowKit Go.Sort Go.Proofs.Ythbgeikdamajlab.Prs Go.Proofs.Ythbgeikdamajlab.Stb
set_option linter.unusedVariables false
set_option linter.unusedSimpArgs false

/-- What the program's OnTime answers: rows of its own. -/
def OnQ (D : List (Int × Int)) (w : World) (e : Ending) (w' : World) : Prop := ∃ x v1 v2, e = .returned (.tuple #[v1, v2, .int .i64 x]) ∧ KErr D x ∧ Below w.heap.size w w' ∧ (x ≠ 0 → v1 = .slice none 0 0 ∧ v2 = .slice none 0 0) ∧
  (x = 0 → OI w' w.heap.size v1 (kept D (dueO D D.length) D.length) ∧ OI w' w.heap.size v2 (left (kept D (dueO D D.length) D.length) D.length))

set_option maxRecDepth 100000 in
set_option maxHeartbeats 16000000 in
theorem OnTime_own (p : Option Addr) (c : Nat) (D : List (Int × Int)) (w : World) (r : DmpR w p D) (ln : D.length ≤ 1000000) :
    Calls Try.prog 10 #[.slice p D.length c] w (OnQ D w) := by
  obtain ⟨i0, hi, hz0, hz1, hz2⟩ := info_parts intInfo
  have R := Lib.hid r
  have QE := Lib.hid (show ∀ x w', KErr D x → x ≠ 0 → Below w.heap.size w w' → OnQ D w (.returned (.tuple #[.slice none 0 0, .slice none 0 0, .int .i64 x])) w' from fun x w' h g B => ⟨x, _, _, rfl, h, B, fun _ => ⟨rfl, rfl⟩, fun e => absurd e g⟩)
  have FIN := Lib.hid (show ∀ v1 v2 W, KErr D 0 → Below w.heap.size w W → OI W w.heap.size v1 (kept D (dueO D D.length) D.length) → OI W w.heap.size v2 (left (kept D (dueO D D.length) D.length) D.length) → OnQ D w (.returned (.tuple #[v1, v2, .int .i64 0])) W from fun v1 v2 W h B n1 n2 => ⟨0, _, _, rfl, h, B, fun h => absurd rfl h, fun _ => ⟨n1, n2⟩⟩)
  have CT := Lib.hid (fun W (st : Below w.heap.size w W) => checkTasks_any p c D W (r.below st) ln)
  have CS := Lib.hid (fun (W : World) (X : Nat) (st : Below w.heap.size w W) (cx : W.cell? ⟨X, 0, none⟩ = some (.slice p D.length c)) => sorted_any D.length 26 (.pointer (some ⟨X, 0, none⟩)) (fun x => 0 ≤ x ∧ x < D.length) (RDu D) (ocD D) (KpD X p c D W.heap.size) W
    ⟨fun x y w' h hx hy => dueLess_any X p c D W.heap.size x y w' h hx hy ln, fun x y _ _ h => oc_neg D x y h, fun A B sz bl h => h.keep sz bl, rdu_tot D _, fun args W' => by rfl⟩ (KpD.begin cx (r.below st)) ln (fun k hk => ⟨by omega, by omega⟩))
  have LC := Lib.hid (fun (W : World) (q : Option Addr) (d : Nat) (A : List Int) (st : Below w.heap.size w W) (ra : NumR W q A) (la : A.length ≤ 1000000) (ok : ∀ k, k < A.length → 0 ≤ gi A k ∧ gi A k < D.length) => longest_any p c D q d A W (r.below st) ra la ok)
  have FL := Lib.hid (fell_left D)
  obtain ⟨n, hn⟩ : ∃ n, n = D.length := ⟨_, rfl⟩
  have HN := Lib.hid hn
  have X0 := Lib.hid (show BX (w.alloc (Obj.cells #[Value.slice p n c] 22)) w.heap.size 22 (.slice p n c) ∧ Below w.heap.size w (w.alloc (Obj.cells #[Value.slice p n c] 22)) from
    ⟨heap_alloc_new w _, (Below.refl _ w).alloc (Nat.le_refl _) _⟩)
  rw [← hn] at CT CS LC ln FL FIN ⊢
  clear hn r
  go_enter Try.func10, Try.ntmps10
  go_upto_region 1 with fail
  generalize w.alloc (Obj.cells #[Value.slice p n c] 22) = w1 at *
  have ct := X0.out.1.cell
  go_wp2_with fail
  refine (CT.out w1 X0.out.2).mono ?_
  rintro e w2 ⟨x, rfl, TE, st⟩
  have TE := Lib.hid TE
  have X1 := Lib.hid (show BX w2 w.heap.size 22 (.slice p n c) ∧ Below w.heap.size w w2 from ⟨X0.out.1.keep (st.block _ X0.out.1.lt), X0.out.2.trans (st.mono X0.out.2.size)⟩)
  clear st X0 CT ct
  by_cases x0 : x = 0
  case neg =>
    have x1 : (x == 0) = false := by simpa using x0
    have x2 : (x != 0) = true := by simpa using x0
    have x3 : decide (x = 0) = false := decide_eq_false x0
    have FF := Lib.hid (QE.out x w2 TE.out x0 X1.out.2)
    clear x0 QE FIN CS LC
    go_wp2_with fail
    go_returns
    exact FF.out
  subst x0
  obtain ⟨n64, tok⟩ := TE.out.good
  rw [← HN.out] at n64
  have TOK := Lib.hid tok
  have ct := X1.out.1.cell
  have CC := Lib.hid (CS.out w2 w.heap.size X1.out.2 ct)
  clear tok QE CS
  go_wp2_with fail
  refine CC.out.mono ?_
  rintro e w3 ⟨ro, g, rfl, hnum, hp, hs, hb, st5⟩
  have IO := Lib.hid (show (List.range n).map g = dueO D n from by
    refine due_uniq (D := D) (sort_ord hp) (by have := dueO_ord D n; exact this) (fun i j ij jn => ?_) (dueO_rd D n)
    rw [gi_map (by omega), gi_map jn]
    exact hs i j (Nat.zero_le _) ij jn)
  rw [IO.out] at hnum
  have OL := Lib.hid (dueO_len D n)
  have OV := Lib.hid (show ∀ z ∈ dueO D n, 0 ≤ z ∧ z < n from fun z hz => (dueO_mem D z n).1 hz)
  have NR := Lib.hid hnum
  have X3 := Lib.hid (show BX w3 w.heap.size 22 (.slice p n c) ∧ Below w.heap.size w w3 from ⟨X1.out.1.keep (st5.block _ X1.out.1.lt), X1.out.2.trans (st5.mono X1.out.2.size)⟩)
  obtain ⟨O, hO⟩ : ∃ O, O = dueO D n := ⟨_, rfl⟩
  rw [← hO] at OL OV NR FL FIN
  clear hnum hp hs hb st5 CC X1 ct IO hO
  obtain ⟨X, hX⟩ : ∃ X, X = w.heap.size := ⟨_, rfl⟩
  have HX := Lib.hid hX
  have X3 := Lib.hid (show BX w3 X 22 (.slice p n c) ∧ Below w.heap.size w w3 from by rw [hX]; exact X3.out)
  rw [← hX]
  clear hX
  have n64' : n ≤ 64 := n64
  clear n64
  go_wp2_with fail
  go_loopw [6, 7, 8, 23] (fun dv lv mv kv wr => ∃ k : Nat, k ≤ n ∧ kv = .int .i64 k ∧ mv = .int .i64 (tot D (kept D O k)) ∧ Hid (OI wr w3.heap.size dv (kept D O k)) ∧ Hid (OI wr w3.heap.size lv (fell D O k)) ∧ Hid (Apt dv lv) ∧ Hid (Below w3.heap.size w3 wr)) (fun _ _ _ kv _ => n - (intOf kv).toNat)
  case atStart => exact ⟨0, Nat.zero_le _, rfl, rfl, Lib.hid (World.ownsRow_nil _ _ _ _), Lib.hid (World.ownsRow_nil _ _ _ _), Lib.hid (fun b e => by cases e), Lib.hid (Below.refl _ _)⟩
  case round =>
    obtain ⟨k, hk, rfl, rfl, HD, HL, AP, HB⟩ := hrel
    by_cases t1 : k < n
    · have k1 : (0 : Int) ≤ (k : Int) := by omega
      have k2 : (k : Int) < (n : Int) := by omega
      have KL := kept_len (D := D) (O := O) k (by have := OL.out; omega)
      have KS := Lib.hid (kept_succ (D := D) (O := O) (i := k) (by have := OL.out; omega))
      have KV := Lib.hid (show ∀ z ∈ kept D O k, 0 ≤ z ∧ z < n from fun z hz => OV.out z (List.mem_of_mem_take (kept_mem k (by have := OL.out; omega) z hz)))
      have FS := Lib.hid (show fell D O (k + 1) = if sd D (gi O k).toNat < tot D (kept D O k ++ [gi O k]) then fell D O k ++ [gi (kept D O k ++ [gi O k]) (lgx D (kept D O k ++ [gi O k]) (kept D O k ++ [gi O k]).length)] else fell D O k from rfl)
      have FE := Lib.hid (fell_len D O k)
      have xv := OV.out (gi O k) (by rw [show gi O k = O[k]'(by have := OL.out; omega) from by simp [gi, show k < O.length by have := OL.out; omega]]; exact List.getElem_mem _)
      obtain ⟨x, hx⟩ := Int.eq_ofNat_of_zero_le xv.1
      rw [hx] at xv KS FS
      rw [Int.toNat_natCast] at FS
      have xn : x < n := by omega
      obtain ⟨y6, ey6, ky, cy⟩ := (NR.out.below HB.out) k (by have := OL.out; omega)
      cases ey6
      rw [hx, addr0k] at cy
      have ct : ∀ W, Below w3.heap.size w3 W → W.cell? ⟨X, 0, none⟩ = some (.slice p n c) := fun W B => (X3.out.1.keep (B.block _ X3.out.1.lt)).cell
      have CT := Lib.hid ct
      have RT := Lib.hid (show ∀ W, Below w3.heap.size w3 W → DmpR W p D from fun W B => R.out.below (X3.out.2.trans (B.mono X3.out.2.size)))
      clear hx ky ct
      generalize kept D O k = K at *
      generalize fell D O k = F at *
      have hbs : ∀ (W : World) o, Below w3.heap.size w3 W → w3.heap.size ≤ (W.alloc o).heap.size := fun W o B => by have := B.size; simp; omega
      rename World => wz
      go_upto_region 10 with (first
        | (at_builtin; refine wpList_append_own_at _ rfl _ _ 25 rfl w3.heap.size 3 i0 (.int .i64 0) 1 8 Try.underlying25 hi hz0 hz1 hz2 rfl (by decide) _ _ _ rfl (World.ownsRow.alloc HD.out _) ⟨wz.heap.size, 0, none⟩ 1 1 [.int .i64 (x : Int)] rfl rfl (one_cell _) one_one (by unfold maxLen; omega) (by omega) (hbs _ _ HB.out) ?_; intro v' w4 hown' hgrow _ hat))
      obtain ⟨O1, O2, A1⟩ := OI.snoc HD.out HL.out AP.out hown' hgrow hat
      have B1 : Below w3.heap.size w3 w4 := (HB.out.alloc HB.out.size _).grown hgrow (by have := HB.out.size; simp; omega) (fun k e => (HD.out.lt k e).1)
      obtain ⟨K1, hK1⟩ : ∃ K1, K1 = K ++ [(x : Int)] := ⟨_, rfl⟩
      have HK1 := Lib.hid hK1
      have LK1 : K1.length = K.length + 1 := by rw [hK1]; simp
      rw [← hK1] at O1 FS
      obtain ⟨q', d', rfl, nk⟩ := ownNums (M := K1) O1
      have NK := Lib.hid nk
      have HD1 := Lib.hid O1
      have HL1 := Lib.hid O2
      have AP1 := Lib.hid A1
      have HB1 := Lib.hid B1
      have KV1 := Lib.hid (show ∀ j, j < K1.length → ∃ u : Nat, gi K1 j = (u : Int) ∧ u < n from fun j hj => by
        have m : gi K1 j ∈ K1 := by rw [show gi K1 j = K1[j] from by simp [gi, hj]]; exact List.getElem_mem _
        generalize gi K1 j = z at m
        rw [HK1.out] at m
        rcases List.mem_append.1 m with m | m
        · have := KV.out _ m
          obtain ⟨u, hu⟩ := Int.eq_ofNat_of_zero_le this.1
          exact ⟨u, hu, by omega⟩
        · simp at m
          exact ⟨x, m, xn⟩)
      have KVI := Lib.hid (show ∀ z ∈ K1, 0 ≤ z ∧ z < D.length from fun z hz => by
        rw [HK1.out] at hz
        rcases List.mem_append.1 hz with m | m
        · have := KV.out _ m; have := HN.out; omega
        · simp at m; subst m; have := HN.out; omega)
      have TS := Lib.hid (show tot D K1 = tot D K + pd D x from by rw [HK1.out]; unfold tot; rw [Sea.sums_snoc, Int.toNat_natCast])
      have tb := tot_bd (D := D) TOK.out K1 KVI.out
      have tb0 := tot_bd (D := D) TOK.out K (fun z hz => KVI.out z (by rw [HK1.out]; exact List.mem_append.2 (.inl hz)))
      have KS2 := Lib.hid (show kept D O (k + 1) = if sd D x < tot D K1 then K1.eraseIdx (lgx D K1 K1.length) else K1 from by
        rw [KS.out, HK1.out]
        unfold mhs
        rw [Int.toNat_natCast])
      have jl : lgx D K1 K1.length < K1.length := by have := lgx_lt D K1 K1.length; omega
      have TE2 := Lib.hid (tot_erase D K1 (lgx D K1 K1.length) jl)
      have LG := Lib.hid (show ∀ j, Lg D K1 K1.length j → j = lgx D K1 K1.length from fun j h => h.uniq (lgx_Lg D K1 K1.length))
      obtain ⟨z, ez, kz, cu, cd⟩ := (RT.out _ HB1.out) x (by have := HN.out; omega)
      subst ez
      have ct := CT.out _ HB1.out
      have pb := (TOK.out x (by have := HN.out; omega)).1
      have x1 : (0 : Int) ≤ (x : Int) := by omega
      have x2 : (x : Int) < (n : Int) := by omega
      have kl1 : K1.length ≤ 65 := by omega
      clear hown' hgrow hat hK1 O1 O2 A1 B1 nk HD HL AP HB KS KV cy kz LK1
      have wS : IntKind.i64.wrap (tot D K + pd D x) = tot D K + pd D x := wI rfl (by omega) (by have := n64'; omega)
      rw [← TS.out] at wS
      have TSE := TS.out.symm
      by_cases g : sd D x < tot D K1
      case neg =>
        rw [if_neg g] at KS2 FS
        have RS := Lib.hid (show tot D (kept D O (k + 1)) = tot D K1 from by rw [KS2.out])
        clear LC TE2 LG jl CT RT
        generalize tot D K1 = S1 at *
        generalize tot D K = S0 at *
        generalize pd D x = a at *
        generalize sd D x = due at *
        have wS' : IntKind.i64.wrap (S0 + a) = S1 := by rw [TSE]; exact wS
        have d1 : decide (due < S1) = false := decide_eq_false g
        clear g TSE wS TS
        go_wp2_with fail
        go_roundw
        case rel => exact ⟨k + 1, by omega, by go_num, by rw [RS.out], by rw [KS2.out]; exact HD1, by rw [FS.out]; exact HL1, AP1, HB1⟩
        case measure => simp [intOf] <;> omega
      rw [if_pos g] at KS2 FS
      have RS := Lib.hid (show tot D (kept D O (k + 1)) = tot D K1 - pd D (gi K1 (lgx D K1 K1.length)).toNat from by rw [KS2.out]; exact TE2.out)
      clear TE2
      generalize lgx D K1 K1.length = j at *
      obtain ⟨u, hu, un⟩ := KV1.out j jl
      rw [hu] at RS FS
      rw [Int.toNat_natCast] at RS
      have LCC := Lib.hid (LC.out w4 q' d' K1 (X3.out.2.trans (HB1.out.mono X3.out.2.size)) NK.out (by omega) (fun k hk => by obtain ⟨u, e, l⟩ := KV1.out k hk; rw [e]; have := HN.out; omega))
      have HU := Lib.hid hu
      generalize tot D K1 = S1 at *
      generalize tot D K = S0 at *
      generalize pd D x = a at *
      generalize sd D x = due at *
      have wS' : IntKind.i64.wrap (S0 + a) = S1 := by rw [TSE]; exact wS
      have d1 : decide (due < S1) = true := decide_eq_true g
      clear g TSE wS TS hu LC
      go_wp2_with fail
      refine LCC.out.mono ?_
      rintro e w5 ⟨j', rfl, lg, st⟩
      obtain rfl : j' = j := LG.out j' lg
      have HD2 := Lib.hid (OI.below HD1.out st)
      have HL2 := Lib.hid (OI.below HL1.out st)
      have HB2 := Lib.hid (HB1.out.trans (st.mono HB1.out.size))
      obtain ⟨y, ey, ky, cj⟩ := (NK.out.below st) j' jl
      subst ey
      rw [HU.out] at cj
      have ct := CT.out _ HB2.out
      obtain ⟨z2, ez, kz, cu2, -⟩ := (RT.out _ HB2.out) u (by have := HN.out; omega)
      cases ez
      have ub := (TOK.out u (by have := HN.out; omega)).1
      have j1 : (0 : Int) ≤ (j' : Int) := by omega
      have j2 : (j' : Int) < (K1.length : Int) := by omega
      have u1 : (0 : Int) ≤ (u : Int) := by omega
      have u2 : (u : Int) < (n : Int) := by omega
      clear LCC lg st HD1 HL1 HB1 NK cu cd LG kz ky d1 wS'
      generalize pd D u = b at *
      have wS2 : IntKind.i64.wrap (S1 - b) = S1 - b := wI rfl (by have := tb.1; omega) (by have := n64'; omega)
      have wj : IntKind.i64.wrap ((j' : Int) + 1) = (j' : Int) + 1 := wI rfl (by omega) (by omega)
      go_upto_region 16 with (first
        | (at_builtin; refine wpList_append_own_at _ rfl _ _ 25 rfl w3.heap.size 3 i0 (.int .i64 0) 1 8 Try.underlying25 hi hz0 hz1 hz2 rfl (by decide) _ _ _ rfl (World.ownsRow.alloc HL2.out _) ⟨w5.heap.size, 0, none⟩ 1 1 [.int .i64 (u : Int)] rfl rfl (one_cell _) one_one (by have := FE.out; unfold maxLen; omega) (by have := FE.out; omega) (hbs _ _ HB2.out) ?_; intro v' w6 hown' hgrow _ hat))
      obtain ⟨O1, O2, A1⟩ := OI.snoc HL2.out HD2.out AP1.out.symm hown' hgrow hat
      have HB3 := Lib.hid (show Below w3.heap.size w3 w6 from (HB2.out.alloc HB2.out.size _).grown hgrow (by have := HB2.out.size; simp; omega) (fun k e => (HL2.out.lt k e).1))
      have DC := Lib.hid (delete_own O2 (by omega) jl)
      rw [show ((j' + 1 : Nat) : Int) = (j' : Int) + 1 from by omega] at DC
      have HD3 := Lib.hid O2
      have HL3 := Lib.hid O1
      have AP3 := Lib.hid A1
      clear hown' hgrow hat O1 O2 A1 HD2 HL2 HB2 AP1 ct cj cu2 hbs
      go_wp2_with fail
      refine DC.out.mono ?_
      rintro e w7 ⟨v3, rfl, O5, gr, ob⟩
      have HL4 := Lib.hid (HL3.out.keep gr (fun b e f => AP3.out b e f))
      have HD4 := Lib.hid O5
      have AP4 := Lib.hid (show Apt v3 v' from fun b e f => AP3.out b f (by rw [← ob]; exact e))
      have HB4 := Lib.hid (show Below w3.heap.size w3 w7 from HB3.out.grown gr HB3.out.size (fun k e => (HD3.out.lt k e).1))
      clear O5 gr ob DC HL3 HD3 AP3 HB3
      go_wp2_with fail
      go_roundw
      case rel => exact ⟨k + 1, by omega, by go_num, by rw [RS.out], by rw [KS2.out]; exact HD4, by rw [FS.out]; exact HL4, AP4, HB4⟩
      case measure => simp [intOf] <;> omega
    obtain rfl : k = n := by omega
    have FE := fell_len D O k
    obtain ⟨q7, d7, rfl, nk⟩ := ownNums (M := kept D O k) HD.out
    have SC := Lib.hid (sort_own HL.out (by omega))
    have LL := Lib.hid (show (fell D O k).length = (left (kept D O k) k).length from by rw [← FL.out, List.length_mergeSort])
    clear nk
    go_wp2_with fail
    refine SC.out.mono ?_
    rintro e w8 ⟨rfl, O5, gr⟩
    rw [FL.out, LL.out] at O5
    have O6 := HD.out.keep gr (fun b e f => AP.out b e f)
    have B8 : Below w3.heap.size w3 w8 := HB.out.grown gr HB.out.size (fun k e => (HL.out.lt k e).1)
    obtain ⟨q8, d8, rfl, n8⟩ := ownNums (M := left (kept D O k) k) O5
    obtain ⟨q9, d9, e9, n9⟩ := ownNums (M := kept D O k) O6
    cases e9
    have FF := Lib.hid (FIN.out _ _ w8 TE.out (X3.out.2.trans (B8.mono X3.out.2.size)) (ownBase (a := w.heap.size) X3.out.2.size O6) (ownBase (a := w.heap.size) X3.out.2.size O5))
    clear O5 O6 B8 n8 n9 gr SC FIN HD HL AP HB OV OL NR
    generalize kept D O k = K at *
    generalize left K k = L at *
    go_wp2_with fail
    go_returns
    exact FF.out
theorem OnTime_any (p : Option Addr) (c : Nat) (D : List (Int × Int)) (w : World) (r : DmpR w p D) (ln : D.length ≤ 1000000) :
    Calls Try.prog 10 #[.slice p D.length c] w (ROnQ D w) := by
  refine (OnTime_own p c D w r ln).mono ?_
  rintro e w' ⟨x, v1, v2, rfl, h, B, n0, o⟩
  refine ⟨x, v1, v2, rfl, h, B, n0, fun x0 => ?_⟩
  obtain ⟨o1, o2⟩ := o x0
  obtain ⟨q1, c1, rfl, n1⟩ := ownNums o1
  obtain ⟨q2, c2, rfl, n2⟩ := ownNums o2
  exact ⟨q1, c1, q2, c2, rfl, rfl, n1, n2⟩
end Go.Proofs.Ythbgeikdamajlab
