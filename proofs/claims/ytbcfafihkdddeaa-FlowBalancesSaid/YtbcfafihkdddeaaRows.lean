/-
  No cell of these rows narrows 'for every input' (looked for: loops, veiled, ifaces, maps, wideKeys, modest, calm, conditions, laid).
  DERIVED. THE GIVEN ROWS OF THIS SEAT. 8 by the template 'for every input the law returns true; each argument reads behind the call as it read before'; 0 by the template 'total and deterministic' (their statements: YtbcfafihkdddeaaTotals.lean).
  GIVEN WITH THE SEED: the statements are not yours to turn. If you find one false, say at which input.
  Laid BY PROGRAM, IN A SANDBOX (cutbox-rows.mjs): the forced cells as the released guide's own fill.sh prints them over the translation 8021e49aae8f770a… (all of the seat's roots in one cut). By AI agents, Wed Nov 11 2026. No macro, syntax, notation, axiom, sorry.
-/
import Derived.Test.YtbcfafihkdddeaaChecked
import GoSem.Claim
import GoSem.ClaimJoined
import GoSem.ClaimMapViews
import Derived.JoinedTies
import Derived.KernelRfl
namespace Go.Proofs.Ytbcfafihkdddeaa
/- THE CELL 'sum', in the pinned program and in every row, IS THE sha256 OF THE DUMP (.gsa) THAT YtbcfafihkdddeaaProg.lean LOADS. Nothing in Lean hashes anything: it is a label: what it is worth is what the hold of that sum in a sandbox is worth. -/
noncomputable def Try.pinned : Pinned := { name := "ytbcfafihkdddeaa", sum := "8021e49aae8f770aa428cfbde5f77ca1efac5e09887a1241ccd6dafea7a7f67b", checked := Try.checked }
namespace Rows
def none {H : Type} : Left H := { results := [], args := [] }

/-- 'merinolaw03.ClassingHists': WHATEVER THE INPUT: true; the input reads as it did. -/
def classingHistsSpec : ChangeSpec := { name := "classingHists", fn := fun _ => fun
  | [d1, d2, d3, d4] => { results := [.lit (.bool true)], args := [d1, d2, d3, d4] }
  | _ => none }
def classingHistsRow : OpenClaim := { program := "ytbcfafihkdddeaa", sum := "8021e49aae8f770aa428cfbde5f77ca1efac5e09887a1241ccd6dafea7a7f67b", func := "merino/merinolaw03.ClassingHists", spec := "classingHists", inPlace := ["internal/bytealg.Compare"], unfollowed := true, recurses := true, named := ["math/bits.divideError", "math/bits.overflowError"], apart := false }
def ClassingHistsSaid : Prop := classingHistsRow.holds Try.pinned (OpenSpec.ofChange classingHistsSpec)

/-- ITS FALSE NEIGHBOUR: 'it returns false'. Refute it at one input. -/
def classingHistsWrong : ChangeSpec := { name := "classingHists", fn := fun _ => fun
  | [d1, d2, d3, d4] => { results := [.lit (.bool false)], args := [d1, d2, d3, d4] }
  | _ => none }
def ClassingHistsWrongFalsely : Prop := classingHistsRow.holds Try.pinned (OpenSpec.ofChange classingHistsWrong)

/-- 'merinolaw03.ClassingTests': WHATEVER THE INPUT: true; the input reads as it did. -/
def classingTestsSpec : ChangeSpec := { name := "classingTests", fn := fun _ => fun
  | [d1, d2] => { results := [.lit (.bool true)], args := [d1, d2] }
  | _ => none }
def classingTestsRow : OpenClaim := { program := "ytbcfafihkdddeaa", sum := "8021e49aae8f770aa428cfbde5f77ca1efac5e09887a1241ccd6dafea7a7f67b", func := "merino/merinolaw03.ClassingTests", spec := "classingTests", inPlace := ["internal/bytealg.Compare"], unfollowed := true, recurses := true, named := ["math/bits.divideError", "math/bits.overflowError"], apart := false }
def ClassingTestsSaid : Prop := classingTestsRow.holds Try.pinned (OpenSpec.ofChange classingTestsSpec)

/-- ITS FALSE NEIGHBOUR: 'it returns false'. Refute it at one input. -/
def classingTestsWrong : ChangeSpec := { name := "classingTests", fn := fun _ => fun
  | [d1, d2] => { results := [.lit (.bool false)], args := [d1, d2] }
  | _ => none }
def ClassingTestsWrongFalsely : Prop := classingTestsRow.holds Try.pinned (OpenSpec.ofChange classingTestsWrong)

/-- 'merinolaw03.ClassingAgree': WHATEVER THE INPUT: true; the input reads as it did. -/
def classingAgreeSpec : ChangeSpec := { name := "classingAgree", fn := fun _ => fun
  | [d1, d2] => { results := [.lit (.bool true)], args := [d1, d2] }
  | _ => none }
def classingAgreeRow : OpenClaim := { program := "ytbcfafihkdddeaa", sum := "8021e49aae8f770aa428cfbde5f77ca1efac5e09887a1241ccd6dafea7a7f67b", func := "merino/merinolaw03.ClassingAgree", spec := "classingAgree", inPlace := ["internal/bytealg.Compare"], unfollowed := true, recurses := true, named := ["math/bits.divideError", "math/bits.overflowError"], apart := false }
def ClassingAgreeSaid : Prop := classingAgreeRow.holds Try.pinned (OpenSpec.ofChange classingAgreeSpec)

/-- ITS FALSE NEIGHBOUR: 'it returns false'. Refute it at one input. -/
def classingAgreeWrong : ChangeSpec := { name := "classingAgree", fn := fun _ => fun
  | [d1, d2] => { results := [.lit (.bool false)], args := [d1, d2] }
  | _ => none }
def ClassingAgreeWrongFalsely : Prop := classingAgreeRow.holds Try.pinned (OpenSpec.ofChange classingAgreeWrong)

/-- 'merinolaw03.ClassingCosts': WHATEVER THE INPUT: true; the input reads as it did. -/
def classingCostsSpec : ChangeSpec := { name := "classingCosts", fn := fun _ => fun
  | [d1, d2, d3, d4] => { results := [.lit (.bool true)], args := [d1, d2, d3, d4] }
  | _ => none }
def classingCostsRow : OpenClaim := { program := "ytbcfafihkdddeaa", sum := "8021e49aae8f770aa428cfbde5f77ca1efac5e09887a1241ccd6dafea7a7f67b", func := "merino/merinolaw03.ClassingCosts", spec := "classingCosts", inPlace := ["internal/bytealg.Compare"], unfollowed := true, recurses := true, named := ["math/bits.divideError", "math/bits.overflowError"], apart := false }
def ClassingCostsSaid : Prop := classingCostsRow.holds Try.pinned (OpenSpec.ofChange classingCostsSpec)

/-- ITS FALSE NEIGHBOUR: 'it returns false'. Refute it at one input. -/
def classingCostsWrong : ChangeSpec := { name := "classingCosts", fn := fun _ => fun
  | [d1, d2, d3, d4] => { results := [.lit (.bool false)], args := [d1, d2, d3, d4] }
  | _ => none }
def ClassingCostsWrongFalsely : Prop := classingCostsRow.holds Try.pinned (OpenSpec.ofChange classingCostsWrong)

/-- 'merinolaw03.ClassingMerges': WHATEVER THE INPUT: true; the input reads as it did. -/
def classingMergesSpec : ChangeSpec := { name := "classingMerges", fn := fun _ => fun
  | [d1, d2, d3] => { results := [.lit (.bool true)], args := [d1, d2, d3] }
  | _ => none }
def classingMergesRow : OpenClaim := { program := "ytbcfafihkdddeaa", sum := "8021e49aae8f770aa428cfbde5f77ca1efac5e09887a1241ccd6dafea7a7f67b", func := "merino/merinolaw03.ClassingMerges", spec := "classingMerges", inPlace := ["internal/bytealg.Compare"], unfollowed := true, recurses := true, named := ["math/bits.divideError", "math/bits.overflowError"], apart := false }
def ClassingMergesSaid : Prop := classingMergesRow.holds Try.pinned (OpenSpec.ofChange classingMergesSpec)

/-- ITS FALSE NEIGHBOUR: 'it returns false'. Refute it at one input. -/
def classingMergesWrong : ChangeSpec := { name := "classingMerges", fn := fun _ => fun
  | [d1, d2, d3] => { results := [.lit (.bool false)], args := [d1, d2, d3] }
  | _ => none }
def ClassingMergesWrongFalsely : Prop := classingMergesRow.holds Try.pinned (OpenSpec.ofChange classingMergesWrong)

/-- 'merinolaw03.ClassingQuantiles': WHATEVER THE INPUT: true; the input reads as it did. -/
def classingQuantilesSpec : ChangeSpec := { name := "classingQuantiles", fn := fun _ => fun
  | [d1, d2, d3] => { results := [.lit (.bool true)], args := [d1, d2, d3] }
  | _ => none }
def classingQuantilesRow : OpenClaim := { program := "ytbcfafihkdddeaa", sum := "8021e49aae8f770aa428cfbde5f77ca1efac5e09887a1241ccd6dafea7a7f67b", func := "merino/merinolaw03.ClassingQuantiles", spec := "classingQuantiles", inPlace := ["internal/bytealg.Compare"], unfollowed := true, recurses := true, named := ["math/bits.divideError", "math/bits.overflowError"], apart := false }
def ClassingQuantilesSaid : Prop := classingQuantilesRow.holds Try.pinned (OpenSpec.ofChange classingQuantilesSpec)

/-- ITS FALSE NEIGHBOUR: 'it returns false'. Refute it at one input. -/
def classingQuantilesWrong : ChangeSpec := { name := "classingQuantiles", fn := fun _ => fun
  | [d1, d2, d3] => { results := [.lit (.bool false)], args := [d1, d2, d3] }
  | _ => none }
def ClassingQuantilesWrongFalsely : Prop := classingQuantilesRow.holds Try.pinned (OpenSpec.ofChange classingQuantilesWrong)

/-- 'merinolaw05.FlowBalances': WHATEVER THE INPUT: true; the input reads as it did. -/
def flowBalancesSpec : ChangeSpec := { name := "flowBalances", fn := fun _ => fun
  | [d1, d2, d3, d4] => { results := [.lit (.bool true)], args := [d1, d2, d3, d4] }
  | _ => none }
def flowBalancesRow : OpenClaim := { program := "ytbcfafihkdddeaa", sum := "8021e49aae8f770aa428cfbde5f77ca1efac5e09887a1241ccd6dafea7a7f67b", func := "merino/merinolaw05.FlowBalances", spec := "flowBalances", apart := false }
def FlowBalancesSaid : Prop := flowBalancesRow.holds Try.pinned (OpenSpec.ofChange flowBalancesSpec)

/-- ITS FALSE NEIGHBOUR: 'it returns false'. Refute it at one input. -/
def flowBalancesWrong : ChangeSpec := { name := "flowBalances", fn := fun _ => fun
  | [d1, d2, d3, d4] => { results := [.lit (.bool false)], args := [d1, d2, d3, d4] }
  | _ => none }
def FlowBalancesWrongFalsely : Prop := flowBalancesRow.holds Try.pinned (OpenSpec.ofChange flowBalancesWrong)

/-- 'merinolaw05.FlowBlocks': WHATEVER THE INPUT: true; the input reads as it did. -/
def flowBlocksSpec : ChangeSpec := { name := "flowBlocks", fn := fun _ => fun
  | [d1, d2, d3] => { results := [.lit (.bool true)], args := [d1, d2, d3] }
  | _ => none }
def flowBlocksRow : OpenClaim := { program := "ytbcfafihkdddeaa", sum := "8021e49aae8f770aa428cfbde5f77ca1efac5e09887a1241ccd6dafea7a7f67b", func := "merino/merinolaw05.FlowBlocks", spec := "flowBlocks", apart := false }
def FlowBlocksSaid : Prop := flowBlocksRow.holds Try.pinned (OpenSpec.ofChange flowBlocksSpec)

/-- ITS FALSE NEIGHBOUR: 'it returns false'. Refute it at one input. -/
def flowBlocksWrong : ChangeSpec := { name := "flowBlocks", fn := fun _ => fun
  | [d1, d2, d3] => { results := [.lit (.bool false)], args := [d1, d2, d3] }
  | _ => none }
def FlowBlocksWrongFalsely : Prop := flowBlocksRow.holds Try.pinned (OpenSpec.ofChange flowBlocksWrong)

/- THE SECOND FORM. 'bulk': how many values and letters a reading holds, each counted each time it is reached (what is shared counts as often as it is met; a slice's spare places count too). A statement '..UptoSaid' is the law's where the arguments, and the package variables that the reading takes, are together of bulk at most 1048576: NARROWER than '..Said'. Prove '..Said' where nothing that the law and all that it calls make is longer than what came in: it says more and counts as full. Else prove '..UptoSaid'. A law counts once. -/
mutual
def uptoBulk {H : Type} : DataW H → Nat
  | .lit (.string bytes) => bytes.length + 1
  | .lit _ => 1
  | .nil => 1
  | .ptr d => uptoBulk d + 1
  | .slice elems spare => uptoBulkAll elems + uptoBulkAll spare + 1
  | .agg parts => uptoBulkAll parts + 1
  | .iface _ d => uptoBulk d + 1
  | .map entries => uptoBulkEntries entries + 1
  | .held _ => 1
def uptoBulkAll {H : Type} : List (DataW H) → Nat
  | [] => 0
  | d :: r => uptoBulk d + uptoBulkAll r
def uptoBulkEntries {H : Type} : List (Lit × DataW H) → Nat
  | [] => 0
  | x :: r => uptoBulkEntry x + uptoBulkEntries r
def uptoBulkEntry {H : Type} : Lit × DataW H → Nat
  | (.string bytes, d) => bytes.length + uptoBulk d + 1
  | (_, d) => uptoBulk d + 1
 end
def uptoSmall : (H : Type) → List (DataW H) → Bool := fun _ ds => decide (uptoBulkAll ds ≤ 1048576)
def OpenSpec.upto (s : _root_.Go.ChangeSpec) : _root_.Go.OpenSpec := { _root_.Go.OpenSpec.ofChange s with cond := some uptoSmall }

/-- 'merinolaw03.ClassingHists', WHERE WHAT IT READS IS OF BULK AT MOST 1048576: true; the input reads as it did. -/
def classingHistsUptoRow : OpenClaim := { program := "ytbcfafihkdddeaa", sum := "8021e49aae8f770aa428cfbde5f77ca1efac5e09887a1241ccd6dafea7a7f67b", func := "merino/merinolaw03.ClassingHists", spec := "classingHists", inPlace := ["internal/bytealg.Compare"], unfollowed := true, recurses := true, named := ["math/bits.divideError", "math/bits.overflowError"], apart := false, narrowed := true }
def ClassingHistsUptoSaid : Prop := classingHistsUptoRow.holds Try.pinned (OpenSpec.upto classingHistsSpec)

/-- 'merinolaw03.ClassingTests', WHERE WHAT IT READS IS OF BULK AT MOST 1048576: true; the input reads as it did. -/
def classingTestsUptoRow : OpenClaim := { program := "ytbcfafihkdddeaa", sum := "8021e49aae8f770aa428cfbde5f77ca1efac5e09887a1241ccd6dafea7a7f67b", func := "merino/merinolaw03.ClassingTests", spec := "classingTests", inPlace := ["internal/bytealg.Compare"], unfollowed := true, recurses := true, named := ["math/bits.divideError", "math/bits.overflowError"], apart := false, narrowed := true }
def ClassingTestsUptoSaid : Prop := classingTestsUptoRow.holds Try.pinned (OpenSpec.upto classingTestsSpec)

/-- 'merinolaw03.ClassingAgree', WHERE WHAT IT READS IS OF BULK AT MOST 1048576: true; the input reads as it did. -/
def classingAgreeUptoRow : OpenClaim := { program := "ytbcfafihkdddeaa", sum := "8021e49aae8f770aa428cfbde5f77ca1efac5e09887a1241ccd6dafea7a7f67b", func := "merino/merinolaw03.ClassingAgree", spec := "classingAgree", inPlace := ["internal/bytealg.Compare"], unfollowed := true, recurses := true, named := ["math/bits.divideError", "math/bits.overflowError"], apart := false, narrowed := true }
def ClassingAgreeUptoSaid : Prop := classingAgreeUptoRow.holds Try.pinned (OpenSpec.upto classingAgreeSpec)

/-- 'merinolaw03.ClassingCosts', WHERE WHAT IT READS IS OF BULK AT MOST 1048576: true; the input reads as it did. -/
def classingCostsUptoRow : OpenClaim := { program := "ytbcfafihkdddeaa", sum := "8021e49aae8f770aa428cfbde5f77ca1efac5e09887a1241ccd6dafea7a7f67b", func := "merino/merinolaw03.ClassingCosts", spec := "classingCosts", inPlace := ["internal/bytealg.Compare"], unfollowed := true, recurses := true, named := ["math/bits.divideError", "math/bits.overflowError"], apart := false, narrowed := true }
def ClassingCostsUptoSaid : Prop := classingCostsUptoRow.holds Try.pinned (OpenSpec.upto classingCostsSpec)

/-- 'merinolaw03.ClassingMerges', WHERE WHAT IT READS IS OF BULK AT MOST 1048576: true; the input reads as it did. -/
def classingMergesUptoRow : OpenClaim := { program := "ytbcfafihkdddeaa", sum := "8021e49aae8f770aa428cfbde5f77ca1efac5e09887a1241ccd6dafea7a7f67b", func := "merino/merinolaw03.ClassingMerges", spec := "classingMerges", inPlace := ["internal/bytealg.Compare"], unfollowed := true, recurses := true, named := ["math/bits.divideError", "math/bits.overflowError"], apart := false, narrowed := true }
def ClassingMergesUptoSaid : Prop := classingMergesUptoRow.holds Try.pinned (OpenSpec.upto classingMergesSpec)

/-- 'merinolaw03.ClassingQuantiles', WHERE WHAT IT READS IS OF BULK AT MOST 1048576: true; the input reads as it did. -/
def classingQuantilesUptoRow : OpenClaim := { program := "ytbcfafihkdddeaa", sum := "8021e49aae8f770aa428cfbde5f77ca1efac5e09887a1241ccd6dafea7a7f67b", func := "merino/merinolaw03.ClassingQuantiles", spec := "classingQuantiles", inPlace := ["internal/bytealg.Compare"], unfollowed := true, recurses := true, named := ["math/bits.divideError", "math/bits.overflowError"], apart := false, narrowed := true }
def ClassingQuantilesUptoSaid : Prop := classingQuantilesUptoRow.holds Try.pinned (OpenSpec.upto classingQuantilesSpec)

/-- 'merinolaw05.FlowBalances', WHERE WHAT IT READS IS OF BULK AT MOST 1048576: true; the input reads as it did. -/
def flowBalancesUptoRow : OpenClaim := { program := "ytbcfafihkdddeaa", sum := "8021e49aae8f770aa428cfbde5f77ca1efac5e09887a1241ccd6dafea7a7f67b", func := "merino/merinolaw05.FlowBalances", spec := "flowBalances", apart := false, narrowed := true }
def FlowBalancesUptoSaid : Prop := flowBalancesUptoRow.holds Try.pinned (OpenSpec.upto flowBalancesSpec)

/-- 'merinolaw05.FlowBlocks', WHERE WHAT IT READS IS OF BULK AT MOST 1048576: true; the input reads as it did. -/
def flowBlocksUptoRow : OpenClaim := { program := "ytbcfafihkdddeaa", sum := "8021e49aae8f770aa428cfbde5f77ca1efac5e09887a1241ccd6dafea7a7f67b", func := "merino/merinolaw05.FlowBlocks", spec := "flowBlocks", apart := false, narrowed := true }
def FlowBlocksUptoSaid : Prop := flowBlocksUptoRow.holds Try.pinned (OpenSpec.upto flowBlocksSpec)

end Rows
end Go.Proofs.Ytbcfafihkdddeaa
