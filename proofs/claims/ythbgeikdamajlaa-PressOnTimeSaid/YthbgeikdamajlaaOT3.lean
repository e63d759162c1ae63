/- Press: OnTime of the reference. -/
import Derived.Test.YthbgeikdamajlaaOT2
/- Press: the reference's OnTime. -/
namespace Go.Proofs.Ythbgeikdamajlaa
open Go.RowKit Go.Proofs.Ythbgeikdamajlaa.Prs Go.Proofs.Ythbgeikdamajlaa.Stb
set_option linter.unusedVariables false
set_option linter.unusedSimpArgs false

/-- What OnTime answers, in the reference; the order is that by due times. -/
def ROnQ (D : List (Int × Int)) (w : World) (e : Ending) (w' : World) : Prop := ∃ x v1 v2, e = .returned (.tuple #[v1, v2, .int .i64 x]) ∧ KErr D x ∧ Below w.heap.size w w' ∧ (x ≠ 0 → v1 = .slice none 0 0 ∧ v2 = .slice none 0 0) ∧
  (x = 0 → ∃ q c q' c', v1 = .slice q (kept D (dueO D D.length) D.length).length c ∧ v2 = .slice q' (left (kept D (dueO D D.length) D.length) D.length).length c' ∧ NumR w' q (kept D (dueO D D.length) D.length) ∧ NumR w' q' (left (kept D (dueO D D.length) D.length) D.length))
theorem KErr.good {D : List (Int × Int)} (h : KErr D 0) : D.length ≤ 64 ∧ TkOk D D.length := by
  rcases h with ⟨_, h⟩ | ⟨a, b, _⟩ | ⟨_, _, h⟩
  · omega
  · exact ⟨a, b⟩
  · omega

set_option maxRecDepth 100000 in
set_option maxHeartbeats 16000000 in
theorem rOnTime_any (p : Option Addr) (c : Nat) (D : List (Int × Int)) (w : World) (r : DmpR w p D) (ln : D.length ≤ 1000000) :
    Calls Try.prog 46 #[.slice p D.length c] w (ROnQ D w) := by
  obtain ⟨i0, hi, hz0, hz1, hz2⟩ := info_parts intInfo
  have R := Lib.hid r
  have CD := Lib.hid (fun W (st : Below w.heap.size w W) (l : D.length ≤ 64) => rDue_any p c D W (r.below st) l)
  have QE := Lib.hid (show ∀ x w', KErr D x → x ≠ 0 → Below w.heap.size w w' → ROnQ D w (.returned (.tuple #[.slice none 0 0, .slice none 0 0, .int .i64 x])) w' from fun x w' h g B => ⟨x, _, _, rfl, h, B, fun _ => ⟨rfl, rfl⟩, fun e => absurd e g⟩)
  obtain ⟨n, hn⟩ : ∃ n, n = D.length := ⟨_, rfl⟩
  have HN := Lib.hid hn
  have E3 := Lib.hid (show 64 < n → KErr D 3 from fun h => .inl ⟨by omega, rfl⟩)
  have E2 := Lib.hid (show n ≤ 64 → ¬ TkOk D n → KErr D 2 from fun h g => .inr (.inr ⟨by omega, by rw [← hn]; exact g, rfl⟩))
  have E0 := Lib.hid (show n ≤ 64 → TkOk D n → KErr D 0 from fun h g => .inr (.inl ⟨by omega, by rw [← hn]; exact g, rfl⟩))
  rw [← hn] at CD ln ⊢
  clear hn r
  go_enter Try.func46, Try.ntmps46
  by_cases n64 : (64 : Int) < n
  · have d1 : decide ((64 : Int) < n) = true := decide_eq_true n64
    have FF := Lib.hid (QE.out 3 w (E3.out (by omega)) (by decide) (Below.refl _ _))
    clear E3 E2 E0 QE CD
    go_wp2_with fail
    go_returns
    exact FF.out
  have d1 : decide ((64 : Int) < n) = false := decide_eq_false n64
  have n64' : n ≤ 64 := by omega
  clear E3
  go_wp2_with fail
  clear d1
  go_loopw [5] (fun kv wr => ∃ i : Nat, i ≤ n ∧ kv = .int .i64 i ∧ Hid (TkOk D i) ∧ wr = w) (fun kv _ => n - (intOf kv).toNat)
  case atStart => exact ⟨0, Nat.zero_le _, rfl, Lib.hid fun j h => by omega, rfl⟩
  case round =>
    obtain ⟨i, hi', rfl, OK, rfl⟩ := hrel
    by_cases t1 : i < n
    · have i1 : (0 : Int) ≤ (i : Int) := by omega
      have i2 : (i : Int) < (n : Int) := by omega
      obtain ⟨x, rfl, kx, cx, cy⟩ := R.out i (by have := HN.out; omega)
      have NO := Lib.hid (show ¬ ((1 ≤ pd D i ∧ pd D i ≤ 1073741824) ∧ 0 ≤ sd D i ∧ sd D i ≤ 1073741824) → KErr D 2 from fun h => E2.out n64' (fun g => h (g i t1)))
      have OK2 := Lib.hid (show ((1 ≤ pd D i ∧ pd D i ≤ 1073741824) ∧ 0 ≤ sd D i ∧ sd D i ≤ 1073741824) → TkOk D (i + 1) from fun h j hj => by
        by_cases e : j = i
        · subst e; exact h
        · exact OK.out j (by omega))
      clear OK kx E2 E0 CD
      generalize pd D i = t at *
      generalize sd D i = u at *
      by_cases c1 : t < 1
      · have ec1 : decide (t < 1) = true := decide_eq_true c1
        have FF := Lib.hid (QE.out 2 wr (NO.out (by omega)) (by decide) (Below.refl _ _))
        clear NO OK2 QE
        go_wp2_with fail
        go_returns
        exact FF.out
      have ec1 : decide (t < 1) = false := decide_eq_false c1
      by_cases c2 : 1073741824 < t
      · have ec2 : decide (1073741824 < t) = true := decide_eq_true c2
        have FF := Lib.hid (QE.out 2 wr (NO.out (by omega)) (by decide) (Below.refl _ _))
        clear NO OK2 QE
        go_wp2_with fail
        go_returns
        exact FF.out
      have ec2 : decide (1073741824 < t) = false := decide_eq_false c2
      by_cases c3 : u < 0
      · have ec3 : decide (u < 0) = true := decide_eq_true c3
        have FF := Lib.hid (QE.out 2 wr (NO.out (by omega)) (by decide) (Below.refl _ _))
        clear NO OK2 QE
        go_wp2_with fail
        go_returns
        exact FF.out
      have ec3 : decide (u < 0) = false := decide_eq_false c3
      by_cases c4 : 1073741824 < u
      · have ec4 : decide (1073741824 < u) = true := decide_eq_true c4
        have FF := Lib.hid (QE.out 2 wr (NO.out (by omega)) (by decide) (Below.refl _ _))
        clear NO OK2 QE
        go_wp2_with fail
        go_returns
        exact FF.out
      have ec4 : decide (1073741824 < u) = false := decide_eq_false c4
      have OK3 := Lib.hid (OK2.out (by omega))
      clear NO OK2 QE
      go_wp2_with fail
      go_roundw
      case rel => exact ⟨i + 1, by omega, by go_num, OK3, by first | rfl | trivial⟩
      case measure => simp [intOf]; omega
    obtain rfl : i = n := by omega
    have KE := Lib.hid (E0.out n64' OK.out)
    have TOK := Lib.hid (show TkOk D D.length by rw [← HN.out]; exact OK.out)
    clear E2 E0 OK QE
    go_wp2_with fail
    refine (CD.out wr (Below.refl _ _) n64').mono ?_
    rintro e w1 ⟨q6, d6, rfl, nr, st⟩
    have OL := Lib.hid (dueO_len D D.length)
    have OV := Lib.hid (show ∀ z ∈ dueO D D.length, 0 ≤ z ∧ z < D.length from fun z hz => (dueO_mem D z D.length).1 hz)
    have FIN := Lib.hid (show ∀ q c q' c' W, Below wr.heap.size wr W → NumR W q (kept D (dueO D D.length) D.length) → NumR W q' (left (kept D (dueO D D.length) D.length) D.length) → ROnQ D wr (.returned (.tuple #[.slice q (kept D (dueO D D.length) D.length).length c, .slice q' (left (kept D (dueO D D.length) D.length) D.length).length c', .int .i64 0])) W from fun q c q' c' W B n1 n2 => ⟨0, _, _, rfl, KE.out, B, fun h => absurd rfl h, fun _ => ⟨q, c, q', c', rfl, rfl, n1, n2⟩⟩)
    rw [← HN.out] at OL OV
    have NR := Lib.hid nr
    have KB := Lib.hid st
    obtain ⟨O, hO⟩ : ∃ O, O = dueO D i := ⟨_, rfl⟩
    have HO := Lib.hid (show O = dueO D D.length by rw [← HN.out]; exact hO)
    rw [← hO] at OL OV NR
    rw [← HO.out] at FIN
    clear nr st CD hO KE
    generalize wr = w0 at *
    go_wp2_with fail
    go_loopw [7, 8] (fun ov kv wx => ∃ (k c : Nat) (q : Option Addr), k ≤ i ∧ kv = .int .i64 k ∧ ov = .slice q (kept D O k).length c ∧ Hid (wx.ownsRow w1.heap.size 3 1 (.slice q (kept D O k).length c) (kept D O k).length ((kept D O k).map (Value.int .i64))) ∧ Hid (Below w1.heap.size w1 wx)) (fun _ kv _ => i - (intOf kv).toNat)
    case atStart => exact ⟨0, 0, none, Nat.zero_le _, rfl, rfl, Lib.hid (World.ownsRow_nil _ _ _ _), Lib.hid (Below.refl _ _)⟩
    case round =>
      obtain ⟨k, kc, kq, hk, rfl, rfl, OW, HB⟩ := hrel
      by_cases t1 : k < i
      · have k1 : (0 : Int) ≤ (k : Int) := by omega
        have k2 : (k : Int) < (i : Int) := by omega
        have KL := kept_len (D := D) (O := O) k (by have := OL.out; omega)
        have KS := Lib.hid (kept_succ (D := D) (O := O) (i := k) (by have := OL.out; omega))
        have KV := Lib.hid (show ∀ z ∈ kept D O k, 0 ≤ z ∧ z < D.length from fun z hz => by
          have := OV.out z (List.mem_of_mem_take (kept_mem k (by have := OL.out; omega) z hz))
          have := HN.out
          omega)
        have xv := OV.out (gi O k) (by rw [show gi O k = O[k]'(by have := OL.out; omega) from by simp [gi, show k < O.length by have := OL.out; omega]]; exact List.getElem_mem _)
        obtain ⟨x, hx⟩ := Int.eq_ofNat_of_zero_le xv.1
        have HX := Lib.hid hx
        rw [hx] at xv KS
        have xn : x < i := by omega
        obtain ⟨y6, ey6, ky, cy⟩ := (NR.out.below HB.out) k (by have := OL.out; omega)
        subst ey6
        rw [hx] at cy
        have HY := Lib.hid (show ∀ W, Below w1.heap.size w1 W → W.cell? (y6.add k) = some (.int .i64 (x : Int)) from fun W B => by
          obtain ⟨y', e, _, c'⟩ := (NR.out.below B) k (by have := OL.out; omega)
          cases e; rw [← hx]; exact c')
        clear hx ky
        generalize kept D O k = K at *
        have hbs : ∀ (W : World) o, Below w1.heap.size w1 W → w1.heap.size ≤ (W.alloc o).heap.size := fun W o B => by have := B.size; simp; omega
        rename World => wz
        go_upto_region 14 with (first
          | (at_builtin; refine wpList_append_own _ rfl _ _ 39 rfl w1.heap.size 3 i0 (.int .i64 0) 1 8 Try.underlying39 hi hz0 hz1 hz2 rfl (by decide) _ _ _ rfl (OW.out.alloc _) ⟨wz.heap.size, 0, none⟩ 1 1 [.int .i64 (x : Int)] rfl rfl (one_cell _) one_one (by unfold maxLen; omega) (by omega) (hbs _ _ HB.out) ?_; intro v' w2 hown' hgrow _))
        obtain ⟨O1, B1⟩ := own_snocD _ HB.out OW.out hown' hgrow
        obtain ⟨K1, hK1⟩ : ∃ K1, K1 = K ++ [(x : Int)] := ⟨_, rfl⟩
        have HK1 := Lib.hid hK1
        have LK1 : K1.length = K.length + 1 := by rw [hK1]; simp
        rw [← hK1, ← LK1] at O1
        obtain ⟨q', d', rfl, nk⟩ := ownNums (M := K1) O1
        have NK := Lib.hid nk
        have OW1 := Lib.hid O1
        have HB1 := Lib.hid B1
        have KV1 := Lib.hid (show ∀ j, j < K1.length → ∃ u : Nat, gi K1 j = (u : Int) ∧ u < i from fun j hj => by
          have m : gi K1 j ∈ K1 := by rw [show gi K1 j = K1[j] from by simp [gi, hj]]; exact List.getElem_mem _
          generalize gi K1 j = z at m
          rw [HK1.out] at m
          rcases List.mem_append.1 m with m | m
          · have := KV.out _ m
            obtain ⟨u, hu⟩ := Int.eq_ofNat_of_zero_le this.1
            exact ⟨u, hu, by have := HN.out; omega⟩
          · simp at m
            exact ⟨x, m, xn⟩)
        have TB := Lib.hid (show ∀ l, 0 ≤ tot D (K1.take l) ∧ tot D (K1.take l) ≤ 65 * 1073741824 from fun l => by
          have := tot_bd (D := D) TOK.out (K1.take l) (fun z hz => by
            have m := List.mem_of_mem_take hz
            rw [HK1.out] at m
            rcases List.mem_append.1 m with m | m
            · exact KV.out _ m
            · simp at m; subst m; have := HN.out; omega)
          have h2 : (K1.take l).length ≤ 65 := by rw [List.length_take]; omega
          omega)
        have kl1 : K1.length ≤ 65 := by omega
        have kl0 : 0 < K1.length := by omega
        clear hK1 O1 B1 nk hown' hgrow OW HB hbs cy LK1
        go_wp2_with fail
        go_loopw [9, 10, 11] (fun sv jv kv wq => ∃ l : Nat, l ≤ K1.length ∧ kv = .int .i64 l ∧ sv = .int .i64 (tot D (K1.take l)) ∧ jv = .int .i64 (lgx D K1 l : Nat) ∧ Hid (wq.ownsRow w1.heap.size 3 1 (.slice q' K1.length d') K1.length (K1.map (Value.int .i64))) ∧ Hid (NumR wq q' K1) ∧ Hid (Below w1.heap.size w1 wq)) (fun _ _ kv _ => K1.length - (intOf kv).toNat)
        case atStart => exact ⟨0, Nat.zero_le _, rfl, rfl, rfl, OW1, NK, HB1⟩
        case round =>
          clear OW1 NK HB1
          obtain ⟨l, hl, rfl, rfl, rfl, OW1, NK, HB1⟩ := hrel
          by_cases t2 : l < K1.length
          · have l1 : (0 : Int) ≤ (l : Int) := by omega
            have l2 : (l : Int) < (K1.length : Int) := by omega
            have TS := Lib.hid (show tot D (K1.take (l + 1)) = tot D (K1.take l) + pd D (gi K1 l).toNat from by
              rw [List.take_succ_eq_append_getElem t2]
              unfold tot
              rw [Sea.sums_snoc]
              simp [gi, t2])
            have LS := Lib.hid (show lgx D K1 (l + 1) = if pd D (gi K1 (lgx D K1 l)).toNat ≤ pd D (gi K1 l).toNat then l else lgx D K1 l from rfl)
            have jl : lgx D K1 l < K1.length := by have := lgx_lt D K1 l; omega
            have tb := TB.out l
            generalize tot D (K1.take l) = S at *
            generalize lgx D K1 l = j at *
            have j1 : (0 : Int) ≤ (j : Int) := by omega
            have j2 : (j : Int) < (K1.length : Int) := by omega
            obtain ⟨u, hu, un⟩ := KV1.out l t2
            obtain ⟨v, hv, vn⟩ := KV1.out j jl
            obtain ⟨y, ey, ky, cl⟩ := NK.out l t2
            subst ey
            obtain ⟨y', ey, ky', cj⟩ := NK.out j jl
            cases ey
            rw [hu] at cl TS LS
            rw [hv] at cj LS
            rw [Int.toNat_natCast] at TS
            rw [Int.toNat_natCast, Int.toNat_natCast] at LS
            have u1 : (0 : Int) ≤ (u : Int) := by omega
            have u2 : (u : Int) < (i : Int) := by omega
            have v1 : (0 : Int) ≤ (v : Int) := by omega
            have v2 : (v : Int) < (i : Int) := by omega
            obtain ⟨z, rfl, kz, cu, -⟩ := (R.out.below (KB.out.trans (HB1.out.mono KB.out.size))) u (by have := HN.out; omega)
            obtain ⟨z', ez, kz', cv, -⟩ := (R.out.below (KB.out.trans (HB1.out.mono KB.out.size))) v (by have := HN.out; omega)
            cases ez
            have ub := (TOK.out u (by have := HN.out; omega)).1
            clear ky ky' kz kz' hu hv
            generalize pd D u = a at *
            generalize pd D v = b at *
            have wS : IntKind.i64.wrap (S + a) = S + a := wI rfl (by omega) (by omega)
            by_cases g : b ≤ a
            · have d1 : decide (b ≤ a) = true := decide_eq_true g
              rw [if_pos g] at LS
              clear g
              go_upto_region 19 with fail
              go_quiet (fail)
              go_wp2_with fail
              go_roundw
              case rel => exact ⟨l + 1, by omega, by go_num, by rw [TS.out], by rw [LS.out], Lib.hid (own_belowD OW1.out (below_drewN (Below.refl _ _) _)), Lib.hid (NK.out.below (below_drewN (Below.refl _ _) _)), Lib.hid (below_drewN HB1.out _)⟩
              case measure => simp [intOf] <;> omega
            · have d1 : decide (b ≤ a) = false := decide_eq_false g
              rw [if_neg g] at LS
              clear g
              go_upto_region 19 with fail
              go_quiet (fail)
              go_wp2_with fail
              go_roundw
              case rel => exact ⟨l + 1, by omega, by go_num, by rw [TS.out], by rw [LS.out], Lib.hid (own_belowD OW1.out (below_drewN (Below.refl _ _) _)), Lib.hid (NK.out.below (below_drewN (Below.refl _ _) _)), Lib.hid (below_drewN HB1.out _)⟩
              case measure => simp [intOf] <;> omega
          obtain rfl : l = K1.length := by omega
          rw [List.take_length]
          have tb := TB.out K1.length
          rw [List.take_length] at tb
          have KS2 := Lib.hid (show kept D O (k + 1) = if sd D x < tot D K1 then K1.eraseIdx (lgx D K1 K1.length) else K1 from by
            rw [KS.out, HK1.out]
            unfold mhs
            rw [Int.toNat_natCast])
          have cy := HY.out _ HB1.out
          obtain ⟨z, rfl, kz, -, cd⟩ := (R.out.below (KB.out.trans (HB1.out.mono KB.out.size))) x (by have := HN.out; omega)
          have x1 : (0 : Int) ≤ (x : Int) := by omega
          have x2 : (x : Int) < (i : Int) := by omega
          have jl : lgx D K1 K1.length < K1.length := by have := lgx_lt D K1 K1.length; omega
          clear kz TB KS
          generalize tot D K1 = S at *
          generalize sd D x = due at *
          generalize lgx D K1 K1.length = j at *
          by_cases g : due < S
          case neg =>
            have d1 : decide (due < S) = false := decide_eq_false g
            rw [if_neg g] at KS2
            clear g
            go_wp2_with fail
            go_roundw
            case rel => exact ⟨k + 1, d', q', by omega, by go_num, by rw [KS2.out], by rw [KS2.out]; exact OW1, HB1⟩
            case measure => simp [intOf] <;> omega
          have d1 : decide (due < S) = true := decide_eq_true g
          rw [if_pos g] at KS2
          clear g
          generalize wr = w3 at *
          have hbs : ∀ (W : World) o, Below w3.heap.size w3 W → w3.heap.size ≤ (W.alloc o).heap.size := fun W o B => by have := B.size; simp; omega
          go_wp2_with fail
          go_loopw [12, 13] (fun nv kv wq => ∃ (l : Nat) (N : List Int), l ≤ K1.length ∧ kv = .int .i64 l ∧ N.length ≤ l ∧ Hid (N = (K1.take l).eraseIdx j) ∧ Hid (wq.ownsRow w3.heap.size 3 1 nv N.length (N.map (Value.int .i64))) ∧ Hid (Below w3.heap.size w3 wq)) (fun _ kv _ => K1.length - (intOf kv).toNat)
          case atStart => exact ⟨0, [], Nat.zero_le _, rfl, by simp, Lib.hid (by simp), Lib.hid (World.ownsRow_nil _ _ _ _), Lib.hid (Below.refl _ _)⟩
          case round =>
            clear d1 cy cd
            obtain ⟨l, N, hl, rfl, nl, EN, OWN, HB2⟩ := hrel
            by_cases t2 : l < K1.length
            · have l1 : (0 : Int) ≤ (l : Int) := by omega
              have l2 : (l : Int) < (K1.length : Int) := by omega
              have ES := Lib.hid (erase_step (K := K1) (j := j) t2)
              by_cases lj : l = j
              · have e1 : ((l : Int) != (j : Int)) = false := by simp; omega
                have EN2 := Lib.hid (show N = (K1.take (l + 1)).eraseIdx j from by rw [ES.out, if_pos lj]; exact EN.out)
                clear ES EN
                go_wp2_with fail
                go_roundw
                case rel => exact ⟨l + 1, N, by omega, by go_num, by omega, EN2, OWN, HB2⟩
                case measure => simp [intOf] <;> omega
              · have e1 : ((l : Int) != (j : Int)) = true := by simp; omega
                have EN2 := Lib.hid (show N ++ [gi K1 l] = (K1.take (l + 1)).eraseIdx j from by rw [ES.out, if_neg lj, ← EN.out])
                obtain ⟨y, rfl, ky, cl⟩ := (NK.out.below HB2.out) l t2
                clear ES EN ky lj
                generalize gi K1 l = z' at *
                go_wp2_with (first
                  | (at_builtin; refine wpList_append_own _ rfl _ _ 39 rfl w3.heap.size 3 i0 (.int .i64 0) 1 8 Try.underlying39 hi hz0 hz1 hz2 rfl (by decide) _ _ _ rfl (OWN.out.alloc _) ⟨wr.heap.size, 0, none⟩ 1 1 [.int .i64 z'] rfl rfl (one_cell _) one_one (by unfold maxLen; omega) (by omega) (hbs _ _ HB2.out) ?_))
                intro v' w4 hown' hgrow _
                obtain ⟨O2, B2⟩ := own_snocD _ HB2.out OWN.out hown' hgrow
                have OW3 := Lib.hid (show w4.ownsRow w3.heap.size 3 1 v' (N ++ [z']).length ((N ++ [z']).map (Value.int .i64)) from by simpa using O2)
                have HB3 := Lib.hid B2
                clear hown' hgrow O2 B2 OWN HB2
                go_wp2_with fail
                go_roundw
                case rel => exact ⟨l + 1, N ++ [z'], by omega, by go_num, by simp; omega, EN2, OW3, HB3⟩
                case measure => simp [intOf] <;> omega
            obtain rfl : l = K1.length := by omega
            have EN2 := Lib.hid (show kept D O (k + 1) = N from by rw [KS2.out, EN.out, List.take_length])
            obtain ⟨q2, d2, rfl, -⟩ := ownNums (M := N) OWN.out
            have OW4 := Lib.hid (ownBase (a := w1.heap.size) (by have := HB1.out.size; exact this) OWN.out)
            have HB4 := Lib.hid (HB1.out.trans (HB2.out.mono HB1.out.size))
            clear EN OWN HB2 KS2 hbs
            go_wp2_with fail
            go_roundw
            case rel => exact ⟨k + 1, d2, q2, by omega, by go_num, by rw [EN2.out], by rw [EN2.out]; exact OW4, HB4⟩
            case measure => simp [intOf] <;> omega
      obtain rfl : k = i := by omega
      obtain ⟨q7, d7, eq7, nk⟩ := ownNums (M := kept D O k) OW.out
      cases eq7
      have NK := Lib.hid nk
      have KL := kept_len (D := D) (O := O) k (by have := OL.out; omega)
      rw [← HN.out] at FIN
      have KB3 := Lib.hid (KB.out.trans (HB.out.mono KB.out.size))
      clear nk OW OV NR HO TOK R
      generalize kept D O k = K at *
      generalize wr = w3 at *
      have hbs : ∀ (W : World) o, Below w3.heap.size w3 W → w3.heap.size ≤ (W.alloc o).heap.size := fun W o B => by have := B.size; simp; omega
      go_wp2_with fail
      go_loopw [14, 15] (fun lv kv wq => ∃ (l : Nat) (N : List Int), l ≤ k ∧ kv = .int .i64 l ∧ N.length ≤ l ∧ Hid (N = left K l) ∧ Hid (wq.ownsRow w3.heap.size 3 1 lv N.length (N.map (Value.int .i64))) ∧ Hid (Below w3.heap.size w3 wq)) (fun _ kv _ => k - (intOf kv).toNat)
      case atStart => exact ⟨0, [], Nat.zero_le _, rfl, by simp, Lib.hid rfl, Lib.hid (World.ownsRow_nil _ _ _ _), Lib.hid (Below.refl _ _)⟩
      case round =>
        obtain ⟨l, N, hl, rfl, nl, EN, OWN, HB2⟩ := hrel
        by_cases t2 : l < k
        · have l1 : (0 : Int) ≤ (l : Int) := by omega
          have l2 : (l : Int) < (k : Int) := by omega
          generalize wr = w4 at *
          go_wp2_with fail
          go_loopw [16, 17] (fun bv mv wz => ∃ (m : Nat) (b : Bool), m ≤ K.length ∧ mv = .int .i64 m ∧ bv = .bool b ∧ Hid (b = (K.take m).contains (l : Int)) ∧ wz = w4) (fun _ mv _ => K.length - (intOf mv).toNat)
          case atStart => exact ⟨0, false, Nat.zero_le _, rfl, rfl, Lib.hid (by simp), rfl⟩
          case round =>
            obtain ⟨m, b, hm, rfl, rfl, EB, rfl⟩ := hrel
            by_cases t3 : m < K.length
            · have m1 : (0 : Int) ≤ (m : Int) := by omega
              have m2 : (m : Int) < (K.length : Int) := by omega
              have EM := Lib.hid (show (K.take (m + 1)).contains (l : Int) = (b || gi K m == (l : Int)) from by
                rw [contains_step t3, EB.out])
              cases b with
              | true =>
                have EB2 := Lib.hid (show true = (K.take (m + 1)).contains (l : Int) from by rw [EM.out]; rfl)
                clear EM EB
                go_wp2_with fail
                go_roundw
                case rel => exact ⟨m + 1, true, by omega, by go_num, by first | rfl | trivial, EB2, by first | rfl | trivial⟩
                case measure => simp [intOf] <;> omega
              | false =>
                obtain ⟨y, rfl, ky, cm⟩ := (NK.out.below HB2.out) m t3
                obtain ⟨e, he⟩ : ∃ e, e = (gi K m == (l : Int)) := ⟨_, rfl⟩
                have EB2 := Lib.hid (show e = (K.take (m + 1)).contains (l : Int) from by rw [EM.out, he]; rfl)
                have he' := he.symm
                clear EM EB ky he
                generalize gi K m = z at *
                go_wp2_with fail
                go_roundw
                case rel => exact ⟨m + 1, e, by omega, by go_num, by first | rfl | trivial | rw [he'], EB2, by first | rfl | trivial⟩
                case measure => simp [intOf] <;> omega
            obtain rfl : m = K.length := by omega
            have LS := Lib.hid (left_succ K l)
            have EB := Lib.hid (show b = K.contains (l : Int) from by rw [EB.out, List.take_length])
            cases b with
            | true =>
              have EN2 := Lib.hid (show N = left K (l + 1) from by rw [LS.out, ← EB.out, if_pos rfl]; exact EN.out)
              clear EN LS EB
              go_wp2_with fail
              go_roundw
              case rel => exact ⟨l + 1, N, by omega, by go_num, by omega, EN2, OWN, HB2⟩
              case measure => simp [intOf] <;> omega
            | false =>
              have EN2 := Lib.hid (show N ++ [(l : Int)] = left K (l + 1) from by rw [LS.out, ← EB.out, if_neg (by decide), EN.out])
              clear EN LS EB
              go_wp2_with (first
                | (at_builtin; refine wpList_append_own _ rfl _ _ 39 rfl w3.heap.size 3 i0 (.int .i64 0) 1 8 Try.underlying39 hi hz0 hz1 hz2 rfl (by decide) _ _ _ rfl (OWN.out.alloc _) ⟨wr.heap.size, 0, none⟩ 1 1 [.int .i64 (l : Int)] rfl rfl (one_cell _) one_one (by unfold maxLen; omega) (by omega) (hbs _ _ HB2.out) ?_))
              intro v' w5 hown' hgrow _
              obtain ⟨O2, B2⟩ := own_snocD _ HB2.out OWN.out hown' hgrow
              have OW3 := Lib.hid (show w5.ownsRow w3.heap.size 3 1 v' (N ++ [(l : Int)]).length ((N ++ [(l : Int)]).map (Value.int .i64)) from by simpa using O2)
              have HB3 := Lib.hid B2
              clear hown' hgrow O2 B2 OWN HB2
              go_wp2_with fail
              go_roundw
              case rel => exact ⟨l + 1, N ++ [(l : Int)], by omega, by go_num, by simp; omega, EN2, OW3, HB3⟩
              case measure => simp [intOf] <;> omega
        obtain rfl : l = k := by omega
        obtain ⟨q8, d8, rfl, nl8⟩ := ownNums (M := N) OWN.out
        have NL8 := Lib.hid nl8
        have FF := Lib.hid (show ROnQ D w0 (.returned (.tuple #[.slice kq K.length kc, .slice q8 N.length d8, .int .i64 0])) wr from by
          have := FIN.out kq kc q8 d8 wr (KB3.out.trans (HB2.out.mono KB3.out.size)) (NK.out.below HB2.out) (by rw [← EN.out]; exact NL8.out)
          rwa [← EN.out] at this)
        clear EN OWN nl8 NL8 FIN hbs
        go_wp2_with fail
        go_returns
        exact FF.out
end Go.Proofs.Ythbgeikdamajlaa
