/-
  No cell of these rows narrows 'for every input' (looked for: loops, veiled, ifaces, maps, wideKeys, modest, calm, conditions, laid).
  DERIVED. THE GIVEN ROWS OF THIS SEAT. 5 by the template 'for every input the law returns true; each argument reads behind the call as it read before'; 0 by the template 'total and deterministic' (their statements: YtlfffobfcledcaaTotals.lean).
  GIVEN WITH THE SEED: the statements are not yours to turn. If you find one false, say at which input.
  Laid BY PROGRAM, IN A SANDBOX (cutbox-rows.mjs): the forced cells as the released guide's own fill.sh prints them over the translation 49658f6c6783bc79… (all of the seat's roots in one cut). By AI agents, Wed Nov 11 2026. No macro, syntax, notation, axiom, sorry.
-/
import Derived.Test.YtlfffobfcledcaaChecked
import GoSem.Claim
import GoSem.ClaimJoined
import GoSem.ClaimMapViews
import Derived.JoinedTies
import Derived.KernelRfl
namespace Go.Proofs.Ytlfffobfcledcaa
/- THE CELL 'sum', in the pinned program and in every row, IS THE sha256 OF THE DUMP (.gsa) THAT YtlfffobfcledcaaProg.lean LOADS. Nothing in Lean hashes anything: it is a label: what it is worth is what the hold of that sum in a sandbox is worth. -/
noncomputable def Try.pinned : Pinned := { name := "ytlfffobfcledcaa", sum := "49658f6c6783bc7909d2cb8bda7739f1d48dc90fc83f9fb8ce1b6f255ca19229", checked := Try.checked }
namespace Rows
def none {H : Type} : Left H := { results := [], args := [] }

/-- 'merinolaw03.ClassingNobody': WHATEVER THE INPUT: true; the input reads as it did. -/
def classingNobodySpec : ChangeSpec := { name := "classingNobody", fn := fun _ => fun
  | [d1, d2] => { results := [.lit (.bool true)], args := [d1, d2] }
  | _ => none }
def classingNobodyRow : OpenClaim := { program := "ytlfffobfcledcaa", sum := "49658f6c6783bc7909d2cb8bda7739f1d48dc90fc83f9fb8ce1b6f255ca19229", func := "merino/merinolaw03.ClassingNobody", spec := "classingNobody", inPlace := ["internal/bytealg.Compare"], unfollowed := true, recurses := true, named := ["math/bits.divideError", "math/bits.overflowError"], apart := false }
def ClassingNobodySaid : Prop := classingNobodyRow.holds Try.pinned (OpenSpec.ofChange classingNobodySpec)

/-- ITS FALSE NEIGHBOUR: 'it returns false'. Refute it at one input. -/
def classingNobodyWrong : ChangeSpec := { name := "classingNobody", fn := fun _ => fun
  | [d1, d2] => { results := [.lit (.bool false)], args := [d1, d2] }
  | _ => none }
def ClassingNobodyWrongFalsely : Prop := classingNobodyRow.holds Try.pinned (OpenSpec.ofChange classingNobodyWrong)

/-- 'merinolaw03.ClassingBases': WHATEVER THE INPUT: true; the input reads as it did. -/
def classingBasesSpec : ChangeSpec := { name := "classingBases", fn := fun _ => fun
  | [d1, d2, d3, d4, d5] => { results := [.lit (.bool true)], args := [d1, d2, d3, d4, d5] }
  | _ => none }
def classingBasesRow : OpenClaim := { program := "ytlfffobfcledcaa", sum := "49658f6c6783bc7909d2cb8bda7739f1d48dc90fc83f9fb8ce1b6f255ca19229", func := "merino/merinolaw03.ClassingBases", spec := "classingBases", inPlace := ["internal/bytealg.Compare"], unfollowed := true, recurses := true, named := ["math/bits.divideError", "math/bits.overflowError"], apart := false }
def ClassingBasesSaid : Prop := classingBasesRow.holds Try.pinned (OpenSpec.ofChange classingBasesSpec)

/-- ITS FALSE NEIGHBOUR: 'it returns false'. Refute it at one input. -/
def classingBasesWrong : ChangeSpec := { name := "classingBases", fn := fun _ => fun
  | [d1, d2, d3, d4, d5] => { results := [.lit (.bool false)], args := [d1, d2, d3, d4, d5] }
  | _ => none }
def ClassingBasesWrongFalsely : Prop := classingBasesRow.holds Try.pinned (OpenSpec.ofChange classingBasesWrong)

/-- 'merinolaw03.ClassingHists': WHATEVER THE INPUT: true; the input reads as it did. -/
def classingHistsSpec : ChangeSpec := { name := "classingHists", fn := fun _ => fun
  | [d1, d2, d3, d4] => { results := [.lit (.bool true)], args := [d1, d2, d3, d4] }
  | _ => none }
def classingHistsRow : OpenClaim := { program := "ytlfffobfcledcaa", sum := "49658f6c6783bc7909d2cb8bda7739f1d48dc90fc83f9fb8ce1b6f255ca19229", func := "merino/merinolaw03.ClassingHists", spec := "classingHists", inPlace := ["internal/bytealg.Compare"], unfollowed := true, recurses := true, named := ["math/bits.divideError", "math/bits.overflowError"], apart := false }
def ClassingHistsSaid : Prop := classingHistsRow.holds Try.pinned (OpenSpec.ofChange classingHistsSpec)

/-- ITS FALSE NEIGHBOUR: 'it returns false'. Refute it at one input. -/
def classingHistsWrong : ChangeSpec := { name := "classingHists", fn := fun _ => fun
  | [d1, d2, d3, d4] => { results := [.lit (.bool false)], args := [d1, d2, d3, d4] }
  | _ => none }
def ClassingHistsWrongFalsely : Prop := classingHistsRow.holds Try.pinned (OpenSpec.ofChange classingHistsWrong)

/-- 'merinolaw03.ClassingMerges': WHATEVER THE INPUT: true; the input reads as it did. -/
def classingMergesSpec : ChangeSpec := { name := "classingMerges", fn := fun _ => fun
  | [d1, d2, d3] => { results := [.lit (.bool true)], args := [d1, d2, d3] }
  | _ => none }
def classingMergesRow : OpenClaim := { program := "ytlfffobfcledcaa", sum := "49658f6c6783bc7909d2cb8bda7739f1d48dc90fc83f9fb8ce1b6f255ca19229", func := "merino/merinolaw03.ClassingMerges", spec := "classingMerges", inPlace := ["internal/bytealg.Compare"], unfollowed := true, recurses := true, named := ["math/bits.divideError", "math/bits.overflowError"], apart := false }
def ClassingMergesSaid : Prop := classingMergesRow.holds Try.pinned (OpenSpec.ofChange classingMergesSpec)

/-- ITS FALSE NEIGHBOUR: 'it returns false'. Refute it at one input. -/
def classingMergesWrong : ChangeSpec := { name := "classingMerges", fn := fun _ => fun
  | [d1, d2, d3] => { results := [.lit (.bool false)], args := [d1, d2, d3] }
  | _ => none }
def ClassingMergesWrongFalsely : Prop := classingMergesRow.holds Try.pinned (OpenSpec.ofChange classingMergesWrong)

/-- 'merinolaw03.ClassingQuantiles': WHATEVER THE INPUT: true; the input reads as it did. -/
def classingQuantilesSpec : ChangeSpec := { name := "classingQuantiles", fn := fun _ => fun
  | [d1, d2, d3] => { results := [.lit (.bool true)], args := [d1, d2, d3] }
  | _ => none }
def classingQuantilesRow : OpenClaim := { program := "ytlfffobfcledcaa", sum := "49658f6c6783bc7909d2cb8bda7739f1d48dc90fc83f9fb8ce1b6f255ca19229", func := "merino/merinolaw03.ClassingQuantiles", spec := "classingQuantiles", inPlace := ["internal/bytealg.Compare"], unfollowed := true, recurses := true, named := ["math/bits.divideError", "math/bits.overflowError"], apart := false }
def ClassingQuantilesSaid : Prop := classingQuantilesRow.holds Try.pinned (OpenSpec.ofChange classingQuantilesSpec)

/-- ITS FALSE NEIGHBOUR: 'it returns false'. Refute it at one input. -/
def classingQuantilesWrong : ChangeSpec := { name := "classingQuantiles", fn := fun _ => fun
  | [d1, d2, d3] => { results := [.lit (.bool false)], args := [d1, d2, d3] }
  | _ => none }
def ClassingQuantilesWrongFalsely : Prop := classingQuantilesRow.holds Try.pinned (OpenSpec.ofChange classingQuantilesWrong)

/- THE SECOND FORM. 'bulk': how many values and letters a reading holds, each counted each time it is reached (what is shared counts as often as it is met; a slice's spare places count too). A statement '..UptoSaid' is the law's where the arguments, and the package variables that the reading takes, are together of bulk at most 1048576: NARROWER than '..Said'. Prove '..Said' where nothing that the law and all that it calls make is longer than what came in: it says more and counts as full. Else prove '..UptoSaid'. A law counts once. -/
mutual
def uptoBulk {H : Type} : DataW H → Nat
  | .lit (.string bytes) => bytes.length + 1
  | .lit _ => 1
  | .nil => 1
  | .ptr d => uptoBulk d + 1
  | .slice elems spare => uptoBulkAll elems + uptoBulkAll spare + 1
  | .agg parts => uptoBulkAll parts + 1
  | .iface _ d => uptoBulk d + 1
  | .map entries => uptoBulkEntries entries + 1
  | .held _ => 1
def uptoBulkAll {H : Type} : List (DataW H) → Nat
  | [] => 0
  | d :: r => uptoBulk d + uptoBulkAll r
def uptoBulkEntries {H : Type} : List (Lit × DataW H) → Nat
  | [] => 0
  | x :: r => uptoBulkEntry x + uptoBulkEntries r
def uptoBulkEntry {H : Type} : Lit × DataW H → Nat
  | (.string bytes, d) => bytes.length + uptoBulk d + 1
  | (_, d) => uptoBulk d + 1
 end
def uptoSmall : (H : Type) → List (DataW H) → Bool := fun _ ds => decide (uptoBulkAll ds ≤ 1048576)
def OpenSpec.upto (s : _root_.Go.ChangeSpec) : _root_.Go.OpenSpec := { _root_.Go.OpenSpec.ofChange s with cond := some uptoSmall }

/-- 'merinolaw03.ClassingNobody', WHERE WHAT IT READS IS OF BULK AT MOST 1048576: true; the input reads as it did. -/
def classingNobodyUptoRow : OpenClaim := { program := "ytlfffobfcledcaa", sum := "49658f6c6783bc7909d2cb8bda7739f1d48dc90fc83f9fb8ce1b6f255ca19229", func := "merino/merinolaw03.ClassingNobody", spec := "classingNobody", inPlace := ["internal/bytealg.Compare"], unfollowed := true, recurses := true, named := ["math/bits.divideError", "math/bits.overflowError"], apart := false, narrowed := true }
def ClassingNobodyUptoSaid : Prop := classingNobodyUptoRow.holds Try.pinned (OpenSpec.upto classingNobodySpec)

/-- 'merinolaw03.ClassingBases', WHERE WHAT IT READS IS OF BULK AT MOST 1048576: true; the input reads as it did. -/
def classingBasesUptoRow : OpenClaim := { program := "ytlfffobfcledcaa", sum := "49658f6c6783bc7909d2cb8bda7739f1d48dc90fc83f9fb8ce1b6f255ca19229", func := "merino/merinolaw03.ClassingBases", spec := "classingBases", inPlace := ["internal/bytealg.Compare"], unfollowed := true, recurses := true, named := ["math/bits.divideError", "math/bits.overflowError"], apart := false, narrowed := true }
def ClassingBasesUptoSaid : Prop := classingBasesUptoRow.holds Try.pinned (OpenSpec.upto classingBasesSpec)

/-- 'merinolaw03.ClassingHists', WHERE WHAT IT READS IS OF BULK AT MOST 1048576: true; the input reads as it did. -/
def classingHistsUptoRow : OpenClaim := { program := "ytlfffobfcledcaa", sum := "49658f6c6783bc7909d2cb8bda7739f1d48dc90fc83f9fb8ce1b6f255ca19229", func := "merino/merinolaw03.ClassingHists", spec := "classingHists", inPlace := ["internal/bytealg.Compare"], unfollowed := true, recurses := true, named := ["math/bits.divideError", "math/bits.overflowError"], apart := false, narrowed := true }
def ClassingHistsUptoSaid : Prop := classingHistsUptoRow.holds Try.pinned (OpenSpec.upto classingHistsSpec)

/-- 'merinolaw03.ClassingMerges', WHERE WHAT IT READS IS OF BULK AT MOST 1048576: true; the input reads as it did. -/
def classingMergesUptoRow : OpenClaim := { program := "ytlfffobfcledcaa", sum := "49658f6c6783bc7909d2cb8bda7739f1d48dc90fc83f9fb8ce1b6f255ca19229", func := "merino/merinolaw03.ClassingMerges", spec := "classingMerges", inPlace := ["internal/bytealg.Compare"], unfollowed := true, recurses := true, named := ["math/bits.divideError", "math/bits.overflowError"], apart := false, narrowed := true }
def ClassingMergesUptoSaid : Prop := classingMergesUptoRow.holds Try.pinned (OpenSpec.upto classingMergesSpec)

/-- 'merinolaw03.ClassingQuantiles', WHERE WHAT IT READS IS OF BULK AT MOST 1048576: true; the input reads as it did. -/
def classingQuantilesUptoRow : OpenClaim := { program := "ytlfffobfcledcaa", sum := "49658f6c6783bc7909d2cb8bda7739f1d48dc90fc83f9fb8ce1b6f255ca19229", func := "merino/merinolaw03.ClassingQuantiles", spec := "classingQuantiles", inPlace := ["internal/bytealg.Compare"], unfollowed := true, recurses := true, named := ["math/bits.divideError", "math/bits.overflowError"], apart := false, narrowed := true }
def ClassingQuantilesUptoSaid : Prop := classingQuantilesUptoRow.holds Try.pinned (OpenSpec.upto classingQuantilesSpec)

end Rows
end Go.Proofs.Ytlfffobfcledcaa
