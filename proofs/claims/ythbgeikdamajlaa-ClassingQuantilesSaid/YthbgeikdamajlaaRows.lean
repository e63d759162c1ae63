/-
  No cell of these rows narrows 'for every input' (looked for: loops, veiled, ifaces, maps, wideKeys, modest, calm, conditions, laid).
  DERIVED. THE GIVEN ROWS OF THIS SEAT. 12 by the template 'for every input the law returns true; each argument reads behind the call as it read before'; 0 by the template 'total and deterministic' (their statements: YthbgeikdamajlaaTotals.lean).
  GIVEN WITH THE SEED: the statements are not yours to turn. If you find one false, say at which input.
  Laid BY PROGRAM, IN A SANDBOX (cutbox-rows.mjs): the forced cells as the released guide's own fill.sh prints them over the translation 73ee8772c922e1d6… (all of the seat's roots in one cut). By AI agents, Wed Nov 11 2026. No macro, syntax, notation, axiom, sorry.
-/
import Derived.Test.YthbgeikdamajlaaChecked
import GoSem.Claim
import GoSem.ClaimJoined
import GoSem.ClaimMapViews
import Derived.JoinedTies
import Derived.KernelRfl
namespace Go.Proofs.Ythbgeikdamajlaa
/- THE CELL 'sum', in the pinned program and in every row, IS THE sha256 OF THE DUMP (.gsa) THAT YthbgeikdamajlaaProg.lean LOADS. Nothing in Lean hashes anything: it is a label: what it is worth is what the hold of that sum in a sandbox is worth. -/
noncomputable def Try.pinned : Pinned := { name := "ythbgeikdamajlaa", sum := "73ee8772c922e1d653920c1a5057995a790d1f549efa769c8601981727c1b363", checked := Try.checked }
namespace Rows
def none {H : Type} : Left H := { results := [], args := [] }

/-- 'merinolaw03.ClassingMerges': WHATEVER THE INPUT: true; the input reads as it did. -/
def classingMergesSpec : ChangeSpec := { name := "classingMerges", fn := fun _ => fun
  | [d1, d2, d3] => { results := [.lit (.bool true)], args := [d1, d2, d3] }
  | _ => none }
def classingMergesRow : OpenClaim := { program := "ythbgeikdamajlaa", sum := "73ee8772c922e1d653920c1a5057995a790d1f549efa769c8601981727c1b363", func := "merino/merinolaw03.ClassingMerges", spec := "classingMerges", inPlace := ["internal/bytealg.Compare"], unfollowed := true, recurses := true, named := ["math/bits.divideError", "math/bits.overflowError"], apart := false }
def ClassingMergesSaid : Prop := classingMergesRow.holds Try.pinned (OpenSpec.ofChange classingMergesSpec)

/-- ITS FALSE NEIGHBOUR: 'it returns false'. Refute it at one input. -/
def classingMergesWrong : ChangeSpec := { name := "classingMerges", fn := fun _ => fun
  | [d1, d2, d3] => { results := [.lit (.bool false)], args := [d1, d2, d3] }
  | _ => none }
def ClassingMergesWrongFalsely : Prop := classingMergesRow.holds Try.pinned (OpenSpec.ofChange classingMergesWrong)

/-- 'merinolaw03.ClassingQuantiles': WHATEVER THE INPUT: true; the input reads as it did. -/
def classingQuantilesSpec : ChangeSpec := { name := "classingQuantiles", fn := fun _ => fun
  | [d1, d2, d3] => { results := [.lit (.bool true)], args := [d1, d2, d3] }
  | _ => none }
def classingQuantilesRow : OpenClaim := { program := "ythbgeikdamajlaa", sum := "73ee8772c922e1d653920c1a5057995a790d1f549efa769c8601981727c1b363", func := "merino/merinolaw03.ClassingQuantiles", spec := "classingQuantiles", inPlace := ["internal/bytealg.Compare"], unfollowed := true, recurses := true, named := ["math/bits.divideError", "math/bits.overflowError"], apart := false }
def ClassingQuantilesSaid : Prop := classingQuantilesRow.holds Try.pinned (OpenSpec.ofChange classingQuantilesSpec)

/-- ITS FALSE NEIGHBOUR: 'it returns false'. Refute it at one input. -/
def classingQuantilesWrong : ChangeSpec := { name := "classingQuantiles", fn := fun _ => fun
  | [d1, d2, d3] => { results := [.lit (.bool false)], args := [d1, d2, d3] }
  | _ => none }
def ClassingQuantilesWrongFalsely : Prop := classingQuantilesRow.holds Try.pinned (OpenSpec.ofChange classingQuantilesWrong)

/-- 'merinolaw05.FlowBlocks': WHATEVER THE INPUT: true; the input reads as it did. -/
def flowBlocksSpec : ChangeSpec := { name := "flowBlocks", fn := fun _ => fun
  | [d1, d2, d3] => { results := [.lit (.bool true)], args := [d1, d2, d3] }
  | _ => none }
def flowBlocksRow : OpenClaim := { program := "ythbgeikdamajlaa", sum := "73ee8772c922e1d653920c1a5057995a790d1f549efa769c8601981727c1b363", func := "merino/merinolaw05.FlowBlocks", spec := "flowBlocks", apart := false }
def FlowBlocksSaid : Prop := flowBlocksRow.holds Try.pinned (OpenSpec.ofChange flowBlocksSpec)

/-- ITS FALSE NEIGHBOUR: 'it returns false'. Refute it at one input. -/
def flowBlocksWrong : ChangeSpec := { name := "flowBlocks", fn := fun _ => fun
  | [d1, d2, d3] => { results := [.lit (.bool false)], args := [d1, d2, d3] }
  | _ => none }
def FlowBlocksWrongFalsely : Prop := flowBlocksRow.holds Try.pinned (OpenSpec.ofChange flowBlocksWrong)

/-- 'merinolaw05.FlowBalances': WHATEVER THE INPUT: true; the input reads as it did. -/
def flowBalancesSpec : ChangeSpec := { name := "flowBalances", fn := fun _ => fun
  | [d1, d2, d3, d4] => { results := [.lit (.bool true)], args := [d1, d2, d3, d4] }
  | _ => none }
def flowBalancesRow : OpenClaim := { program := "ythbgeikdamajlaa", sum := "73ee8772c922e1d653920c1a5057995a790d1f549efa769c8601981727c1b363", func := "merino/merinolaw05.FlowBalances", spec := "flowBalances", apart := false }
def FlowBalancesSaid : Prop := flowBalancesRow.holds Try.pinned (OpenSpec.ofChange flowBalancesSpec)

/-- ITS FALSE NEIGHBOUR: 'it returns false'. Refute it at one input. -/
def flowBalancesWrong : ChangeSpec := { name := "flowBalances", fn := fun _ => fun
  | [d1, d2, d3, d4] => { results := [.lit (.bool false)], args := [d1, d2, d3, d4] }
  | _ => none }
def FlowBalancesWrongFalsely : Prop := flowBalancesRow.holds Try.pinned (OpenSpec.ofChange flowBalancesWrong)

/-- 'merinolaw08.PressSequences': WHATEVER THE INPUT: true; the input reads as it did. -/
def pressSequencesSpec : ChangeSpec := { name := "pressSequences", fn := fun _ => fun
  | [d1, d2] => { results := [.lit (.bool true)], args := [d1, d2] }
  | _ => none }
def pressSequencesRow : OpenClaim := { program := "ythbgeikdamajlaa", sum := "73ee8772c922e1d653920c1a5057995a790d1f549efa769c8601981727c1b363", func := "merino/merinolaw08.PressSequences", spec := "pressSequences", unfollowed := true, recurses := true, apart := false }
def PressSequencesSaid : Prop := pressSequencesRow.holds Try.pinned (OpenSpec.ofChange pressSequencesSpec)

/-- ITS FALSE NEIGHBOUR: 'it returns false'. Refute it at one input. -/
def pressSequencesWrong : ChangeSpec := { name := "pressSequences", fn := fun _ => fun
  | [d1, d2] => { results := [.lit (.bool false)], args := [d1, d2] }
  | _ => none }
def PressSequencesWrongFalsely : Prop := pressSequencesRow.holds Try.pinned (OpenSpec.ofChange pressSequencesWrong)

/-- 'merinolaw08.PressOnTime': WHATEVER THE INPUT: true; the input reads as it did. -/
def pressOnTimeSpec : ChangeSpec := { name := "pressOnTime", fn := fun _ => fun
  | [d] => { results := [.lit (.bool true)], args := [d] }
  | _ => none }
def pressOnTimeRow : OpenClaim := { program := "ythbgeikdamajlaa", sum := "73ee8772c922e1d653920c1a5057995a790d1f549efa769c8601981727c1b363", func := "merino/merinolaw08.PressOnTime", spec := "pressOnTime", unfollowed := true, recurses := true, apart := false }
def PressOnTimeSaid : Prop := pressOnTimeRow.holds Try.pinned (OpenSpec.ofChange pressOnTimeSpec)

/-- ITS FALSE NEIGHBOUR: 'it returns false'. Refute it at one input. -/
def pressOnTimeWrong : ChangeSpec := { name := "pressOnTime", fn := fun _ => fun
  | [d] => { results := [.lit (.bool false)], args := [d] }
  | _ => none }
def PressOnTimeWrongFalsely : Prop := pressOnTimeRow.holds Try.pinned (OpenSpec.ofChange pressOnTimeWrong)

/-- 'merinolaw08.PressShares': WHATEVER THE INPUT: true; the input reads as it did. -/
def pressSharesSpec : ChangeSpec := { name := "pressShares", fn := fun _ => fun
  | [d1, d2] => { results := [.lit (.bool true)], args := [d1, d2] }
  | _ => none }
def pressSharesRow : OpenClaim := { program := "ythbgeikdamajlaa", sum := "73ee8772c922e1d653920c1a5057995a790d1f549efa769c8601981727c1b363", func := "merino/merinolaw08.PressShares", spec := "pressShares", unfollowed := true, recurses := true, apart := false }
def PressSharesSaid : Prop := pressSharesRow.holds Try.pinned (OpenSpec.ofChange pressSharesSpec)

/-- ITS FALSE NEIGHBOUR: 'it returns false'. Refute it at one input. -/
def pressSharesWrong : ChangeSpec := { name := "pressShares", fn := fun _ => fun
  | [d1, d2] => { results := [.lit (.bool false)], args := [d1, d2] }
  | _ => none }
def PressSharesWrongFalsely : Prop := pressSharesRow.holds Try.pinned (OpenSpec.ofChange pressSharesWrong)

/-- 'merinolaw08.PressPacks': WHATEVER THE INPUT: true; the input reads as it did. -/
def pressPacksSpec : ChangeSpec := { name := "pressPacks", fn := fun _ => fun
  | [d1, d2, d3] => { results := [.lit (.bool true)], args := [d1, d2, d3] }
  | _ => none }
def pressPacksRow : OpenClaim := { program := "ythbgeikdamajlaa", sum := "73ee8772c922e1d653920c1a5057995a790d1f549efa769c8601981727c1b363", func := "merino/merinolaw08.PressPacks", spec := "pressPacks", unfollowed := true, recurses := true, apart := false }
def PressPacksSaid : Prop := pressPacksRow.holds Try.pinned (OpenSpec.ofChange pressPacksSpec)

/-- ITS FALSE NEIGHBOUR: 'it returns false'. Refute it at one input. -/
def pressPacksWrong : ChangeSpec := { name := "pressPacks", fn := fun _ => fun
  | [d1, d2, d3] => { results := [.lit (.bool false)], args := [d1, d2, d3] }
  | _ => none }
def PressPacksWrongFalsely : Prop := pressPacksRow.holds Try.pinned (OpenSpec.ofChange pressPacksWrong)

/-- 'merinolaw08.PressJohnson': WHATEVER THE INPUT: true; the input reads as it did. -/
def pressJohnsonSpec : ChangeSpec := { name := "pressJohnson", fn := fun _ => fun
  | [d1, d2] => { results := [.lit (.bool true)], args := [d1, d2] }
  | _ => none }
def pressJohnsonRow : OpenClaim := { program := "ythbgeikdamajlaa", sum := "73ee8772c922e1d653920c1a5057995a790d1f549efa769c8601981727c1b363", func := "merino/merinolaw08.PressJohnson", spec := "pressJohnson", unfollowed := true, recurses := true, apart := false }
def PressJohnsonSaid : Prop := pressJohnsonRow.holds Try.pinned (OpenSpec.ofChange pressJohnsonSpec)

/-- ITS FALSE NEIGHBOUR: 'it returns false'. Refute it at one input. -/
def pressJohnsonWrong : ChangeSpec := { name := "pressJohnson", fn := fun _ => fun
  | [d1, d2] => { results := [.lit (.bool false)], args := [d1, d2] }
  | _ => none }
def PressJohnsonWrongFalsely : Prop := pressJohnsonRow.holds Try.pinned (OpenSpec.ofChange pressJohnsonWrong)

/-- 'merinolaw08.PressJohnsonAll': WHATEVER THE INPUT: true; the input reads as it did. -/
def pressJohnsonAllSpec : ChangeSpec := { name := "pressJohnsonAll", fn := fun _ => fun
  | [d] => { results := [.lit (.bool true)], args := [d] }
  | _ => none }
def pressJohnsonAllRow : OpenClaim := { program := "ythbgeikdamajlaa", sum := "73ee8772c922e1d653920c1a5057995a790d1f549efa769c8601981727c1b363", func := "merino/merinolaw08.PressJohnsonAll", spec := "pressJohnsonAll", unfollowed := true, recurses := true, apart := false }
def PressJohnsonAllSaid : Prop := pressJohnsonAllRow.holds Try.pinned (OpenSpec.ofChange pressJohnsonAllSpec)

/-- ITS FALSE NEIGHBOUR: 'it returns false'. Refute it at one input. -/
def pressJohnsonAllWrong : ChangeSpec := { name := "pressJohnsonAll", fn := fun _ => fun
  | [d] => { results := [.lit (.bool false)], args := [d] }
  | _ => none }
def PressJohnsonAllWrongFalsely : Prop := pressJohnsonAllRow.holds Try.pinned (OpenSpec.ofChange pressJohnsonAllWrong)

/-- 'merinolaw08.PressCritical': WHATEVER THE INPUT: true; the input reads as it did. -/
def pressCriticalSpec : ChangeSpec := { name := "pressCritical", fn := fun _ => fun
  | [d1, d2] => { results := [.lit (.bool true)], args := [d1, d2] }
  | _ => none }
def pressCriticalRow : OpenClaim := { program := "ythbgeikdamajlaa", sum := "73ee8772c922e1d653920c1a5057995a790d1f549efa769c8601981727c1b363", func := "merino/merinolaw08.PressCritical", spec := "pressCritical", unfollowed := true, recurses := true, apart := false }
def PressCriticalSaid : Prop := pressCriticalRow.holds Try.pinned (OpenSpec.ofChange pressCriticalSpec)

/-- ITS FALSE NEIGHBOUR: 'it returns false'. Refute it at one input. -/
def pressCriticalWrong : ChangeSpec := { name := "pressCritical", fn := fun _ => fun
  | [d1, d2] => { results := [.lit (.bool false)], args := [d1, d2] }
  | _ => none }
def PressCriticalWrongFalsely : Prop := pressCriticalRow.holds Try.pinned (OpenSpec.ofChange pressCriticalWrong)

/-- 'merinolaw08.PressMirror': WHATEVER THE INPUT: true; the input reads as it did. -/
def pressMirrorSpec : ChangeSpec := { name := "pressMirror", fn := fun _ => fun
  | [d1, d2] => { results := [.lit (.bool true)], args := [d1, d2] }
  | _ => none }
def pressMirrorRow : OpenClaim := { program := "ythbgeikdamajlaa", sum := "73ee8772c922e1d653920c1a5057995a790d1f549efa769c8601981727c1b363", func := "merino/merinolaw08.PressMirror", spec := "pressMirror", unfollowed := true, recurses := true, apart := false }
def PressMirrorSaid : Prop := pressMirrorRow.holds Try.pinned (OpenSpec.ofChange pressMirrorSpec)

/-- ITS FALSE NEIGHBOUR: 'it returns false'. Refute it at one input. -/
def pressMirrorWrong : ChangeSpec := { name := "pressMirror", fn := fun _ => fun
  | [d1, d2] => { results := [.lit (.bool false)], args := [d1, d2] }
  | _ => none }
def PressMirrorWrongFalsely : Prop := pressMirrorRow.holds Try.pinned (OpenSpec.ofChange pressMirrorWrong)

/- THE SECOND FORM. 'bulk': how many values and letters a reading holds, each counted each time it is reached (what is shared counts as often as it is met; a slice's spare places count too). A statement '..UptoSaid' is the law's where the arguments, and the package variables that the reading takes, are together of bulk at most 1048576: NARROWER than '..Said'. Prove '..Said' where nothing that the law and all that it calls make is longer than what came in: it says more and counts as full. Else prove '..UptoSaid'. A law counts once. -/
mutual
def uptoBulk {H : Type} : DataW H → Nat
  | .lit (.string bytes) => bytes.length + 1
  | .lit _ => 1
  | .nil => 1
  | .ptr d => uptoBulk d + 1
  | .slice elems spare => uptoBulkAll elems + uptoBulkAll spare + 1
  | .agg parts => uptoBulkAll parts + 1
  | .iface _ d => uptoBulk d + 1
  | .map entries => uptoBulkEntries entries + 1
  | .held _ => 1
def uptoBulkAll {H : Type} : List (DataW H) → Nat
  | [] => 0
  | d :: r => uptoBulk d + uptoBulkAll r
def uptoBulkEntries {H : Type} : List (Lit × DataW H) → Nat
  | [] => 0
  | x :: r => uptoBulkEntry x + uptoBulkEntries r
def uptoBulkEntry {H : Type} : Lit × DataW H → Nat
  | (.string bytes, d) => bytes.length + uptoBulk d + 1
  | (_, d) => uptoBulk d + 1
 end
def uptoSmall : (H : Type) → List (DataW H) → Bool := fun _ ds => decide (uptoBulkAll ds ≤ 1048576)
def OpenSpec.upto (s : _root_.Go.ChangeSpec) : _root_.Go.OpenSpec := { _root_.Go.OpenSpec.ofChange s with cond := some uptoSmall }

/-- 'merinolaw03.ClassingMerges', WHERE WHAT IT READS IS OF BULK AT MOST 1048576: true; the input reads as it did. -/
def classingMergesUptoRow : OpenClaim := { program := "ythbgeikdamajlaa", sum := "73ee8772c922e1d653920c1a5057995a790d1f549efa769c8601981727c1b363", func := "merino/merinolaw03.ClassingMerges", spec := "classingMerges", inPlace := ["internal/bytealg.Compare"], unfollowed := true, recurses := true, named := ["math/bits.divideError", "math/bits.overflowError"], apart := false, narrowed := true }
def ClassingMergesUptoSaid : Prop := classingMergesUptoRow.holds Try.pinned (OpenSpec.upto classingMergesSpec)

/-- 'merinolaw03.ClassingQuantiles', WHERE WHAT IT READS IS OF BULK AT MOST 1048576: true; the input reads as it did. -/
def classingQuantilesUptoRow : OpenClaim := { program := "ythbgeikdamajlaa", sum := "73ee8772c922e1d653920c1a5057995a790d1f549efa769c8601981727c1b363", func := "merino/merinolaw03.ClassingQuantiles", spec := "classingQuantiles", inPlace := ["internal/bytealg.Compare"], unfollowed := true, recurses := true, named := ["math/bits.divideError", "math/bits.overflowError"], apart := false, narrowed := true }
def ClassingQuantilesUptoSaid : Prop := classingQuantilesUptoRow.holds Try.pinned (OpenSpec.upto classingQuantilesSpec)

/-- 'merinolaw05.FlowBlocks', WHERE WHAT IT READS IS OF BULK AT MOST 1048576: true; the input reads as it did. -/
def flowBlocksUptoRow : OpenClaim := { program := "ythbgeikdamajlaa", sum := "73ee8772c922e1d653920c1a5057995a790d1f549efa769c8601981727c1b363", func := "merino/merinolaw05.FlowBlocks", spec := "flowBlocks", apart := false, narrowed := true }
def FlowBlocksUptoSaid : Prop := flowBlocksUptoRow.holds Try.pinned (OpenSpec.upto flowBlocksSpec)

/-- 'merinolaw05.FlowBalances', WHERE WHAT IT READS IS OF BULK AT MOST 1048576: true; the input reads as it did. -/
def flowBalancesUptoRow : OpenClaim := { program := "ythbgeikdamajlaa", sum := "73ee8772c922e1d653920c1a5057995a790d1f549efa769c8601981727c1b363", func := "merino/merinolaw05.FlowBalances", spec := "flowBalances", apart := false, narrowed := true }
def FlowBalancesUptoSaid : Prop := flowBalancesUptoRow.holds Try.pinned (OpenSpec.upto flowBalancesSpec)

/-- 'merinolaw08.PressSequences', WHERE WHAT IT READS IS OF BULK AT MOST 1048576: true; the input reads as it did. -/
def pressSequencesUptoRow : OpenClaim := { program := "ythbgeikdamajlaa", sum := "73ee8772c922e1d653920c1a5057995a790d1f549efa769c8601981727c1b363", func := "merino/merinolaw08.PressSequences", spec := "pressSequences", unfollowed := true, recurses := true, apart := false, narrowed := true }
def PressSequencesUptoSaid : Prop := pressSequencesUptoRow.holds Try.pinned (OpenSpec.upto pressSequencesSpec)

/-- 'merinolaw08.PressOnTime', WHERE WHAT IT READS IS OF BULK AT MOST 1048576: true; the input reads as it did. -/
def pressOnTimeUptoRow : OpenClaim := { program := "ythbgeikdamajlaa", sum := "73ee8772c922e1d653920c1a5057995a790d1f549efa769c8601981727c1b363", func := "merino/merinolaw08.PressOnTime", spec := "pressOnTime", unfollowed := true, recurses := true, apart := false, narrowed := true }
def PressOnTimeUptoSaid : Prop := pressOnTimeUptoRow.holds Try.pinned (OpenSpec.upto pressOnTimeSpec)

/-- 'merinolaw08.PressShares', WHERE WHAT IT READS IS OF BULK AT MOST 1048576: true; the input reads as it did. -/
def pressSharesUptoRow : OpenClaim := { program := "ythbgeikdamajlaa", sum := "73ee8772c922e1d653920c1a5057995a790d1f549efa769c8601981727c1b363", func := "merino/merinolaw08.PressShares", spec := "pressShares", unfollowed := true, recurses := true, apart := false, narrowed := true }
def PressSharesUptoSaid : Prop := pressSharesUptoRow.holds Try.pinned (OpenSpec.upto pressSharesSpec)

/-- 'merinolaw08.PressPacks', WHERE WHAT IT READS IS OF BULK AT MOST 1048576: true; the input reads as it did. -/
def pressPacksUptoRow : OpenClaim := { program := "ythbgeikdamajlaa", sum := "73ee8772c922e1d653920c1a5057995a790d1f549efa769c8601981727c1b363", func := "merino/merinolaw08.PressPacks", spec := "pressPacks", unfollowed := true, recurses := true, apart := false, narrowed := true }
def PressPacksUptoSaid : Prop := pressPacksUptoRow.holds Try.pinned (OpenSpec.upto pressPacksSpec)

/-- 'merinolaw08.PressJohnson', WHERE WHAT IT READS IS OF BULK AT MOST 1048576: true; the input reads as it did. -/
def pressJohnsonUptoRow : OpenClaim := { program := "ythbgeikdamajlaa", sum := "73ee8772c922e1d653920c1a5057995a790d1f549efa769c8601981727c1b363", func := "merino/merinolaw08.PressJohnson", spec := "pressJohnson", unfollowed := true, recurses := true, apart := false, narrowed := true }
def PressJohnsonUptoSaid : Prop := pressJohnsonUptoRow.holds Try.pinned (OpenSpec.upto pressJohnsonSpec)

/-- 'merinolaw08.PressJohnsonAll', WHERE WHAT IT READS IS OF BULK AT MOST 1048576: true; the input reads as it did. -/
def pressJohnsonAllUptoRow : OpenClaim := { program := "ythbgeikdamajlaa", sum := "73ee8772c922e1d653920c1a5057995a790d1f549efa769c8601981727c1b363", func := "merino/merinolaw08.PressJohnsonAll", spec := "pressJohnsonAll", unfollowed := true, recurses := true, apart := false, narrowed := true }
def PressJohnsonAllUptoSaid : Prop := pressJohnsonAllUptoRow.holds Try.pinned (OpenSpec.upto pressJohnsonAllSpec)

/-- 'merinolaw08.PressCritical', WHERE WHAT IT READS IS OF BULK AT MOST 1048576: true; the input reads as it did. -/
def pressCriticalUptoRow : OpenClaim := { program := "ythbgeikdamajlaa", sum := "73ee8772c922e1d653920c1a5057995a790d1f549efa769c8601981727c1b363", func := "merino/merinolaw08.PressCritical", spec := "pressCritical", unfollowed := true, recurses := true, apart := false, narrowed := true }
def PressCriticalUptoSaid : Prop := pressCriticalUptoRow.holds Try.pinned (OpenSpec.upto pressCriticalSpec)

/-- 'merinolaw08.PressMirror', WHERE WHAT IT READS IS OF BULK AT MOST 1048576: true; the input reads as it did. -/
def pressMirrorUptoRow : OpenClaim := { program := "ythbgeikdamajlaa", sum := "73ee8772c922e1d653920c1a5057995a790d1f549efa769c8601981727c1b363", func := "merino/merinolaw08.PressMirror", spec := "pressMirror", unfollowed := true, recurses := true, apart := false, narrowed := true }
def PressMirrorUptoSaid : Prop := pressMirrorUptoRow.holds Try.pinned (OpenSpec.upto pressMirrorSpec)

end Rows
end Go.Proofs.Ythbgeikdamajlaa
