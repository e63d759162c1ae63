/- The laws' do, whichever operation. -/
import Derived.Test.YtbphmcjjanchlaaTWD1
import Derived.Test.YtbphmcjjanchlaaTWD2
import Derived.Test.YtbphmcjjanchlaaTWD3
import Derived.Test.YtbphmcjjanchlaaTWD4
import Derived.Test.YtbphmcjjanchlaaTWD5
import Derived.Test.YtbphmcjjanchlaaTWD6
import Derived.Test.YtbphmcjjanchlaaTWD7
import Derived.Test.YtbphmcjjanchlaaTWD8
import Derived.Test.YtbphmcjjanchlaaTWD9
namespace Go.Proofs.Ytbphmcjjanchlaa
open Go.RowKit Go.Proofs.Ytbphmcjjanchlaa.Mii
set_option linter.unusedVariables false
set_option linter.unusedSimpArgs false

theorem do_any (n₀ bw : Nat) (W : World) (KS : List Int) (ms : List Ent) (vm vl : Value) (kind a b k v : Int) (h : Wld n₀ W bw KS ms vm vl) (hz : n₀ ≤ W.heap.size) (hk : KS.length ≤ 1000) (hm : ms.length ≤ 100000)
    (kd1 : 0 ≤ kind ∧ kind ≤ 255) (ra : 0 ≤ a ∧ a ≤ 255) (rb : 0 ≤ b ∧ b ≤ 255) (rk : -9223372036854775808 ≤ k ∧ k ≤ 9223372036854775807) (rv : -9223372036854775808 ≤ v ∧ v ≤ 9223372036854775807) :
    Calls Try.prog 53 #[.pointer (some ⟨bw, 0, none⟩), .agg #[.int .u8 kind, .int .u8 a, .int .u8 b, .int .i64 k, .int .i64 v]] W fun e W' => e = .returned (.bool true) ∧ Below n₀ W W' ∧ ∃ vm' vl' x, Wld n₀ W' bw (k :: KS) (ms ++ [x]) vm' vl' := by
  rcases (by omega : kind % 11 ≤ 2 ∨ kind % 11 = 3 ∨ kind % 11 = 4 ∨ kind % 11 = 5 ∨ kind % 11 = 6 ∨ kind % 11 = 7 ∨ kind % 11 = 8 ∨ kind % 11 = 9 ∨ kind % 11 = 10) with g | g | g | g | g | g | g | g | g
  · exact do_put n₀ bw W KS ms vm vl kind a b k v h hz hk hm g kd1 ra rb rk rv
  · exact do_del n₀ bw W KS ms vm vl kind a b k v h hz hk hm g kd1 ra rb rk rv
  · exact do_lo n₀ bw W KS ms vm vl kind a b k v h hz hk hm g kd1 ra rb rk rv
  · exact do_hi n₀ bw W KS ms vm vl kind a b k v h hz hk hm g kd1 ra rb rk rv
  · exact do_range n₀ bw W KS ms vm vl kind a b k v h hz hk hm g kd1 ra rb rk rv
  · exact do_join n₀ bw W KS ms vm vl kind a b k v h hz hk hm g kd1 ra rb rk rv
  · exact do_union n₀ bw W KS ms vm vl kind a b k v h hz hk hm g kd1 ra rb rk rv
  · exact do_inter n₀ bw W KS ms vm vl kind a b k v h hz hk hm g kd1 ra rb rk rv
  · exact do_sub n₀ bw W KS ms vm vl kind a b k v h hz hk hm g kd1 ra rb rk rv
end Go.Proofs.Ytbphmcjjanchlaa
