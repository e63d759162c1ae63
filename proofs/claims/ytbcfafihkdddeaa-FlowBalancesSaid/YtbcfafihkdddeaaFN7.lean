/- Flow: Potentials and Check, the reference's. -/
import Derived.Test.YtbcfafihkdddeaaFN6
namespace Go.Proofs.Ytbcfafihkdddeaa
open Go.RowKit
set_option linter.unusedVariables false
set_option linter.unusedSimpArgs false

theorem stl_nat {A : Nat → Ar} {M : Nat → Int} {k u : Nat} (h : ∀ i, i < k → arOk (u : Int) (A i)) : StOk u (stL A M k) := by
  have := stL_ok (n := u) (M := M) h
  exact this
set_option maxRecDepth 100000 in
set_option maxHeartbeats 8000000 in
theorem rPotentials_any (n : Int) (hn : -9223372036854775808 ≤ n ∧ n ≤ 9223372036854775807) (p : Option Addr) (c m : Nat) (A : Nat → Ar) (q : Option Addr) (d k : Nat) (M : Nat → Int) (w : World) (r : ArcR w p m A) (r2 : NmR w q k M) (lm : m ≤ 1000000) (lk : k ≤ 1000000) :
    Calls Try.prog 51 #[.int .i64 n, .slice p m c, .slice q k d] w (PoQ n m A k M w) := by
  have R := Lib.hid r
  have R2 := Lib.hid r2
  have CA := Lib.hid (rAmounts_any n hn p c m A q d k M w r r2 lm lk)
  go_enter Try.func51, Try.ntmps51
  go_wp2_with fail
  refine CA.out.mono ?_
  rintro e w1 ⟨x, rfl, nq, st⟩
  have NQ := Lib.hid nq
  have KB := Lib.hid st
  clear nq st CA
  by_cases x0 : x = 0
  case neg =>
    have x1 : (x == 0) = false := by simpa using x0
    have x2 : (x != 0) = true := by simpa using x0
    have X0 := Lib.hid x0
    clear x0
    go_wp2_with fail
    go_ret2
    exact ⟨x, _, rfl, KB.out, .inl ⟨X0.out, NQ.out, rfl⟩⟩
  subst x0
  have x1 : ((0 : Int) == 0) = true := by decide
  have x2 : ((0 : Int) != 0) = false := by decide
  obtain ⟨nb, m128, OKS, rfl, AMT⟩ := NQ.out.good
  obtain ⟨u, rfl⟩ := Int.eq_ofNat_of_zero_le (show 0 ≤ n by omega)
  have OKS := Lib.hid OKS
  have u32 : u ≤ 32 := by omega
  have u1 : 1 ≤ u := by omega
  have CS := Lib.hid (fun W (B : Below w.heap.size w W) => rSteps_any p c k A q d M u W (r.below B) (r2.below B) m128 OKS.out)
  have LN := stps_len A M k
  have OKL := Lib.hid (stl_nat (M := M) OKS.out)
  have CP := Lib.hid (fun pp cc W (R : StR W pp (stps A M k)) => rpotentials_any u u1 u32 pp cc (stps A M k) (by omega) (stL A M k) rfl OKL.out W R)
  clear r r2 nb AMT
  go_wp2_with fail
  refine (CS.out w1 KB.out).mono ?_
  rintro e w2 ⟨v, rfl, hown, st⟩
  obtain ⟨pp, cc, rfl, sr⟩ := own_steps hown
  replace KB := Lib.hid (KB.out.trans (st.mono KB.out.size))
  have SR := Lib.hid sr
  clear hown sr st CS
  generalize hlen : (stps A M k).length = ln at *
  have HLN := Lib.hid hlen
  clear hlen
  go_wp2_with fail
  refine (CP.out pp cc w2 SR.out).mono ?_
  rintro e w3 ⟨v, b, rfl, rq, st⟩
  have RQ := Lib.hid rq
  have SZ := Lib.hid (show w.heap.size ≤ w2.heap.size from KB.out.size)
  replace KB := Lib.hid (KB.out.trans (st.mono KB.out.size))
  clear rq st CP
  cases b
  case false =>
    have FF := Lib.hid (show ∀ j, j ≤ ((u : Int)).toNat → mvB (stL A M k) (rds (stL A M k) j) = true from by
      rcases RQ.out with ⟨_, _, h⟩ | ⟨h, _⟩
      · intro j hj; exact h j (by omega)
      · cases h)
    clear RQ
    go_wp2_with fail
    go_ret2
    exact ⟨13, _, rfl, KB.out, .inr (.inl ⟨NQ.out, rfl, rfl, FF.out⟩)⟩
  case true =>
    have FF := Lib.hid (show ∃ g j, v = .slice (some ⟨g, 0, none⟩) u u ∧ w.heap.size ≤ g ∧ mvB (stL A M k) (rds (stL A M k) j) = false ∧ IR w3 g 3 u (rds (stL A M k) j) ∧ j ≤ u from by
      rcases RQ.out with ⟨h, _⟩ | ⟨_, g, j, h1, h2, h3⟩
      · cases h
      · exact ⟨g, j, h1, Nat.le_trans SZ.out h2, h3⟩)
    clear RQ
    go_wp2_with fail
    go_ret2
    obtain ⟨g, j, h1, h2, h3, h4, h5⟩ := FF.out
    exact ⟨0, v, rfl, KB.out, .inr (.inr ⟨NQ.out, rfl, g, j, by simpa using h1, h2, h3, by simpa using h4, by omega⟩)⟩
end Go.Proofs.Ytbcfafihkdddeaa
