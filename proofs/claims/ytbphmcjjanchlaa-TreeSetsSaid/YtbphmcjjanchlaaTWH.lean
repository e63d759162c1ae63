/- TreePlays, walked. -/
import Derived.Test.YtbphmcjjanchlaaTWG
import Derived.Test.YtbphmcjjanchlaaK22v
namespace Go.Proofs.Ytbphmcjjanchlaa
open Go.RowKit Go.Proofs.Ytbphmcjjanchlaa.Mii
set_option linter.unusedVariables false
set_option linter.unusedSimpArgs false

theorem few_any (p : Option Addr) (n c : Nat) (w : World) (hn : n ≤ 9223372036854775807) : Calls Try.prog 13 #[.slice p n c] w fun e w' => e = .returned (.bool (decide (n ≤ 200))) ∧ w = w' := by
  have h : decide ((n : Int) ≤ 200) = decide (n ≤ 200) := decide_eq_decide.2 (by omega)
  have H := Lib.hid h
  clear h
  go_enter Try.func13, Try.ntmps13
  go_wp2_with fail
  go_ret
  exact ⟨ret_b H.out, rfl⟩
/-- What is known of one map of the world. -/
theorem Wld.entry {n₀ bw : Nat} {W : World} {KS : List Int} {ms : List Ent} {vm vl : Value} (h : Wld n₀ W bw KS ms vm vl) : ∃ gm cm gl cl, vm = .slice (some ⟨gm, 0, none⟩) ms.length cm ∧ vl = .slice (some ⟨gl, 0, none⟩) ms.length cl ∧ n₀ ≤ gm ∧ n₀ ≤ gl ∧
    ∀ i, i < ms.length → ∃ e s d, e ∈ ms ∧ ms[i]? = some e ∧ EntOk W KS e ∧ e.v = .slice s e.L.length d ∧ RowsR W s e.L ∧ W.cell? ⟨gm, i, none⟩ = some (.pointer e.p) ∧ W.cell? ⟨gl, i, none⟩ = some (.slice s e.L.length d) := by
  obtain ⟨gm, cm, evm, gm0, hcm, -, cellm⟩ := ownAt h.om h.ne
  obtain ⟨gl, cl, evl, gl0, hcl, -, celll⟩ := ownAt h.ol h.ne
  refine ⟨gm, cm, gl, cl, evm, evl, gm0, gl0, fun i hi => ?_⟩
  have he : ms[i]? = some ms[i] := List.getElem?_eq_getElem hi
  have O := h.ok _ (List.mem_of_getElem? he)
  obtain ⟨s, d, ev, r, _⟩ := O.row
  exact ⟨ms[i], s, d, List.mem_of_getElem? he, he, O, ev, r, cellm i _ (by rw [List.getElem?_map, he]; rfl), by rw [← ev]; exact celll i _ (by rw [List.getElem?_map, he]; rfl)⟩

set_option maxRecDepth 100000 in
set_option maxHeartbeats 4000000 in
theorem treePlays_walk (p : Option Addr) (c : Nat) (S : List OpV) (w : World) (r : OpsR w p S) (ln : S.length ≤ 9223372036854775807) :
    Calls Try.prog 3 #[.slice p S.length c] w fun e w' => e = .returned (.bool true) ∧ Below w.heap.size w w' := by
  have AL := Lib.hid Go.Proofs.Ytbphmcjjanchlaa.Mis.alive_any
  have CF := Lib.hid (fun W => few_any p S.length c W ln)
  by_cases hlen : S.length ≤ 200
  case neg =>
    rw [decide_eq_false hlen] at CF
    generalize hx : S.length = x at *
    clear hx r hlen
    go_enter Try.func3, Try.ntmps3
    go_wp2_with fail
    refine (CF.out _).mono ?_
    rintro e w0 ⟨rfl, rfl⟩
    go_wp2_with fail
    refine (AL.out _).mono ?_
    rintro e w1 ⟨rfl, st⟩
    go_wp2_with fail
    go_ret
    exact ⟨rfl, st⟩
  rw [decide_eq_true hlen] at CF
  have CP := Lib.hid (played_any p c S w r hlen)
  generalize hx : S.length = x at *
  clear hx r ln
  go_enter Try.func3, Try.ntmps3
  go_wp2_with fail
  refine (CF.out _).mono ?_
  rintro e w0 ⟨rfl, rfl⟩
  go_wp2_with fail
  refine CP.out.mono ?_
  rintro e w1 ⟨bw, KS, ms, vm, vl, rfl, hW, hB, hk, hm⟩
  obtain ⟨gm, cm, gl, cl, rfl, rfl, -, -, -⟩ := hW.entry
  have HW := Lib.hid hW
  have HB := Lib.hid hB
  have HK := Lib.hid hk
  obtain ⟨n, hn⟩ : ∃ n, n = ms.length := ⟨_, rfl⟩
  have HN := Lib.hid hn
  rw [← hn] at hm
  clear hW hB hk CF CP hn
  go_wp2_with fail
  go_loopw [4, 5] (fun ov kv wr => ∃ i : Nat, i ≤ n ∧ ov = .bool true ∧ kv = .int .i64 i ∧ Hid (Wld w.heap.size wr bw KS ms (.slice (some ⟨gm, 0, none⟩) ms.length cm) (.slice (some ⟨gl, 0, none⟩) ms.length cl)) ∧ Below w.heap.size w wr) (fun _ kv _ => n - (intOf kv).toNat)
  case atStart => exact ⟨0, Nat.zero_le _, rfl, rfl, HW, HB.out⟩
  case round =>
    obtain ⟨i, hi, rfl, rfl, HW2, hb⟩ := hrel
    obtain ⟨c0, c1, -, -, -⟩ := HW2.out.cells
    rw [← HN.out] at c0 c1
    by_cases t1 : i < n
    · obtain ⟨gm2, cm2, gl2, cl2, em, el, -, -, hE⟩ := HW2.out.entry
      cases em
      cases el
      obtain ⟨e, s, d, -, -, O, -, rr, mi, ni⟩ := hE i (by rw [← HN.out]; exact t1)
      have OO := Lib.hid O
      have i1 : (0 : Int) ≤ (i : Int) := by omega
      have i2 : (i : Int) < (n : Int) := by omega
      have CS := Lib.hid (fun W' h1 h2 => same_any e.p e.t s d e.L W' h1 O.rows h2 (by have := O.len; have := HK.out; omega))
      have TE := Lib.hid O.at_
      have RE := Lib.hid rr
      have BB := Lib.hid hb
      clear hE O rr hb HW HB
      go_wp2_with fail
      go_region_held3 (fun w' => w'.cell? ⟨bw, 0, none⟩ = some (.slice (some ⟨gm, 0, none⟩) n cm) ∧ w'.cell? ⟨bw, 1, none⟩ = some (.slice (some ⟨gl, 0, none⟩) n cl) ∧ w'.cell? ⟨gm, i, none⟩ = some (.pointer e.p) ∧ w'.cell? ⟨gl, i, none⟩ = some (.slice s e.L.length d))
        (first | exact ⟨c0, c1, mi, ni⟩ | exact ⟨cell_dr c0, cell_dr c1, cell_dr mi, cell_dr ni⟩)
        (first
          | (go_at_call 16; (with_reducible refine (CS.out _ (by first | exact TE.out | exact TE.out.drew) (by first | exact RE.out | exact RE.out.drew)).mono ?_); rintro e w2 ⟨rfl, st0⟩; have st : Below wr.heap.size wr w2 := (by first | exact st0 | exact Below.of_dr st0); replace c0 := cell_gr st c0; replace c1 := cell_gr st c1; replace mi := cell_gr st mi; replace ni := cell_gr st ni; have W3 := Lib.hid (HW2.out.grow st); have B3 := Lib.hid (BB.out.trans (st.mono BB.out.size)); clear st st0 TE RE CS HW2 BB OO))
      go_wp2_with fail
      go_roundw
      case rel => exact ⟨i + 1, by omega, rfl, by go_num, W3, B3.out⟩
      case measure => simp [intOf]; omega
    · have BB := Lib.hid hb
      clear hb HW HB HW2
      go_wp2_with fail
      refine (AL.out _).mono ?_
      rintro e w2 ⟨rfl, st⟩
      have B3 := BB.out.trans (st.mono BB.out.size)
      go_wp2_with fail
      go_ret
      exact ⟨rfl, B3⟩
end Go.Proofs.Ytbphmcjjanchlaa
