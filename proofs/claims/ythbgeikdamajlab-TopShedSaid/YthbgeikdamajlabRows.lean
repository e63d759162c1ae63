/-
  No cell of these rows narrows 'for every input' (looked for: loops, veiled, ifaces, maps, wideKeys, modest, calm, conditions, laid).
  DERIVED. THE GIVEN ROWS OF THIS SEAT. 6 by the template 'for every input the law returns true; each argument reads behind the call as it read before'; 0 by the template 'total and deterministic' (their statements: YthbgeikdamajlabTotals.lean).
  GIVEN WITH THE SEED: the statements are not yours to turn. If you find one false, say at which input.
  Laid BY PROGRAM, IN A SANDBOX (cutbox-rows.mjs): the forced cells as the released guide's own fill.sh prints them over the translation 2464eaf8f5dba740… (all of the seat's roots in one cut). By AI agents, Wed Nov 11 2026. No macro, syntax, notation, axiom, sorry.
-/
import Derived.Test.YthbgeikdamajlabChecked
import GoSem.Claim
import GoSem.ClaimJoined
import GoSem.ClaimMapViews
import Derived.JoinedTies
import Derived.KernelRfl
namespace Go.Proofs.Ythbgeikdamajlab
/- THE CELL 'sum', in the pinned program and in every row, IS THE sha256 OF THE DUMP (.gsa) THAT YthbgeikdamajlabProg.lean LOADS. Nothing in Lean hashes anything: it is a label: what it is worth is what the hold of that sum in a sandbox is worth. -/
noncomputable def Try.pinned : Pinned := { name := "ythbgeikdamajlab", sum := "2464eaf8f5dba7405bcea1d5df0af802590a7a46ef9bf7ef2f8d6564a7453f37", checked := Try.checked }
namespace Rows
def none {H : Type} : Left H := { results := [], args := [] }

/-- 'merinolaw08.PressMoore': WHATEVER THE INPUT: true; the input reads as it did. -/
def pressMooreSpec : ChangeSpec := { name := "pressMoore", fn := fun _ => fun
  | [d1, d2] => { results := [.lit (.bool true)], args := [d1, d2] }
  | _ => none }
def pressMooreRow : OpenClaim := { program := "ythbgeikdamajlab", sum := "2464eaf8f5dba7405bcea1d5df0af802590a7a46ef9bf7ef2f8d6564a7453f37", func := "merino/merinolaw08.PressMoore", spec := "pressMoore", unfollowed := true, recurses := true, apart := false }
def PressMooreSaid : Prop := pressMooreRow.holds Try.pinned (OpenSpec.ofChange pressMooreSpec)

/-- ITS FALSE NEIGHBOUR: 'it returns false'. Refute it at one input. -/
def pressMooreWrong : ChangeSpec := { name := "pressMoore", fn := fun _ => fun
  | [d1, d2] => { results := [.lit (.bool false)], args := [d1, d2] }
  | _ => none }
def PressMooreWrongFalsely : Prop := pressMooreRow.holds Try.pinned (OpenSpec.ofChange pressMooreWrong)

/-- 'merinolaw08.PressGraham': WHATEVER THE INPUT: true; the input reads as it did. -/
def pressGrahamSpec : ChangeSpec := { name := "pressGraham", fn := fun _ => fun
  | [d1, d2, d3] => { results := [.lit (.bool true)], args := [d1, d2, d3] }
  | _ => none }
def pressGrahamRow : OpenClaim := { program := "ythbgeikdamajlab", sum := "2464eaf8f5dba7405bcea1d5df0af802590a7a46ef9bf7ef2f8d6564a7453f37", func := "merino/merinolaw08.PressGraham", spec := "pressGraham", unfollowed := true, recurses := true, apart := false }
def PressGrahamSaid : Prop := pressGrahamRow.holds Try.pinned (OpenSpec.ofChange pressGrahamSpec)

/-- ITS FALSE NEIGHBOUR: 'it returns false'. Refute it at one input. -/
def pressGrahamWrong : ChangeSpec := { name := "pressGraham", fn := fun _ => fun
  | [d1, d2, d3] => { results := [.lit (.bool false)], args := [d1, d2, d3] }
  | _ => none }
def PressGrahamWrongFalsely : Prop := pressGrahamRow.holds Try.pinned (OpenSpec.ofChange pressGrahamWrong)

/-- 'merinolaw08.PressPacked': WHATEVER THE INPUT: true; the input reads as it did. -/
def pressPackedSpec : ChangeSpec := { name := "pressPacked", fn := fun _ => fun
  | [d1, d2, d3, d4] => { results := [.lit (.bool true)], args := [d1, d2, d3, d4] }
  | _ => none }
def pressPackedRow : OpenClaim := { program := "ythbgeikdamajlab", sum := "2464eaf8f5dba7405bcea1d5df0af802590a7a46ef9bf7ef2f8d6564a7453f37", func := "merino/merinolaw08.PressPacked", spec := "pressPacked", unfollowed := true, recurses := true, apart := false }
def PressPackedSaid : Prop := pressPackedRow.holds Try.pinned (OpenSpec.ofChange pressPackedSpec)

/-- ITS FALSE NEIGHBOUR: 'it returns false'. Refute it at one input. -/
def pressPackedWrong : ChangeSpec := { name := "pressPacked", fn := fun _ => fun
  | [d1, d2, d3, d4] => { results := [.lit (.bool false)], args := [d1, d2, d3, d4] }
  | _ => none }
def PressPackedWrongFalsely : Prop := pressPackedRow.holds Try.pinned (OpenSpec.ofChange pressPackedWrong)

/-- 'merinolaw08.PressEases': WHATEVER THE INPUT: true; the input reads as it did. -/
def pressEasesSpec : ChangeSpec := { name := "pressEases", fn := fun _ => fun
  | [d1, d2, d3, d4, d5] => { results := [.lit (.bool true)], args := [d1, d2, d3, d4, d5] }
  | _ => none }
def pressEasesRow : OpenClaim := { program := "ythbgeikdamajlab", sum := "2464eaf8f5dba7405bcea1d5df0af802590a7a46ef9bf7ef2f8d6564a7453f37", func := "merino/merinolaw08.PressEases", spec := "pressEases", unfollowed := true, recurses := true, apart := false }
def PressEasesSaid : Prop := pressEasesRow.holds Try.pinned (OpenSpec.ofChange pressEasesSpec)

/-- ITS FALSE NEIGHBOUR: 'it returns false'. Refute it at one input. -/
def pressEasesWrong : ChangeSpec := { name := "pressEases", fn := fun _ => fun
  | [d1, d2, d3, d4, d5] => { results := [.lit (.bool false)], args := [d1, d2, d3, d4, d5] }
  | _ => none }
def PressEasesWrongFalsely : Prop := pressEasesRow.holds Try.pinned (OpenSpec.ofChange pressEasesWrong)

/-- 'merinotop.TopDual': WHATEVER THE INPUT: true; the input reads as it did. -/
def topDualSpec : ChangeSpec := { name := "topDual", fn := fun _ => fun
  | [d1, d2] => { results := [.lit (.bool true)], args := [d1, d2] }
  | _ => none }
def topDualRow : OpenClaim := { program := "ythbgeikdamajlab", sum := "2464eaf8f5dba7405bcea1d5df0af802590a7a46ef9bf7ef2f8d6564a7453f37", func := "merino/merinotop.TopDual", spec := "topDual", unfollowed := true, recurses := true, apart := false }
def TopDualSaid : Prop := topDualRow.holds Try.pinned (OpenSpec.ofChange topDualSpec)

/-- ITS FALSE NEIGHBOUR: 'it returns false'. Refute it at one input. -/
def topDualWrong : ChangeSpec := { name := "topDual", fn := fun _ => fun
  | [d1, d2] => { results := [.lit (.bool false)], args := [d1, d2] }
  | _ => none }
def TopDualWrongFalsely : Prop := topDualRow.holds Try.pinned (OpenSpec.ofChange topDualWrong)

/-- 'merinotop.TopShed': WHATEVER THE INPUT: true; the input reads as it did. -/
def topShedSpec : ChangeSpec := { name := "topShed", fn := fun _ => fun
  | [d1, d2, d3, d4, d5] => { results := [.lit (.bool true)], args := [d1, d2, d3, d4, d5] }
  | _ => none }
def topShedRow : OpenClaim := { program := "ythbgeikdamajlab", sum := "2464eaf8f5dba7405bcea1d5df0af802590a7a46ef9bf7ef2f8d6564a7453f37", func := "merino/merinotop.TopShed", spec := "topShed", unfollowed := true, recurses := true, apart := false }
def TopShedSaid : Prop := topShedRow.holds Try.pinned (OpenSpec.ofChange topShedSpec)

/-- ITS FALSE NEIGHBOUR: 'it returns false'. Refute it at one input. -/
def topShedWrong : ChangeSpec := { name := "topShed", fn := fun _ => fun
  | [d1, d2, d3, d4, d5] => { results := [.lit (.bool false)], args := [d1, d2, d3, d4, d5] }
  | _ => none }
def TopShedWrongFalsely : Prop := topShedRow.holds Try.pinned (OpenSpec.ofChange topShedWrong)

/- THE SECOND FORM. 'bulk': how many values and letters a reading holds, each counted each time it is reached (what is shared counts as often as it is met; a slice's spare places count too). A statement '..UptoSaid' is the law's where the arguments, and the package variables that the reading takes, are together of bulk at most 1048576: NARROWER than '..Said'. Prove '..Said' where nothing that the law and all that it calls make is longer than what came in: it says more and counts as full. Else prove '..UptoSaid'. A law counts once. -/
mutual
def uptoBulk {H : Type} : DataW H → Nat
  | .lit (.string bytes) => bytes.length + 1
  | .lit _ => 1
  | .nil => 1
  | .ptr d => uptoBulk d + 1
  | .slice elems spare => uptoBulkAll elems + uptoBulkAll spare + 1
  | .agg parts => uptoBulkAll parts + 1
  | .iface _ d => uptoBulk d + 1
  | .map entries => uptoBulkEntries entries + 1
  | .held _ => 1
def uptoBulkAll {H : Type} : List (DataW H) → Nat
  | [] => 0
  | d :: r => uptoBulk d + uptoBulkAll r
def uptoBulkEntries {H : Type} : List (Lit × DataW H) → Nat
  | [] => 0
  | x :: r => uptoBulkEntry x + uptoBulkEntries r
def uptoBulkEntry {H : Type} : Lit × DataW H → Nat
  | (.string bytes, d) => bytes.length + uptoBulk d + 1
  | (_, d) => uptoBulk d + 1
 end
def uptoSmall : (H : Type) → List (DataW H) → Bool := fun _ ds => decide (uptoBulkAll ds ≤ 1048576)
def OpenSpec.upto (s : _root_.Go.ChangeSpec) : _root_.Go.OpenSpec := { _root_.Go.OpenSpec.ofChange s with cond := some uptoSmall }

/-- 'merinolaw08.PressMoore', WHERE WHAT IT READS IS OF BULK AT MOST 1048576: true; the input reads as it did. -/
def pressMooreUptoRow : OpenClaim := { program := "ythbgeikdamajlab", sum := "2464eaf8f5dba7405bcea1d5df0af802590a7a46ef9bf7ef2f8d6564a7453f37", func := "merino/merinolaw08.PressMoore", spec := "pressMoore", unfollowed := true, recurses := true, apart := false, narrowed := true }
def PressMooreUptoSaid : Prop := pressMooreUptoRow.holds Try.pinned (OpenSpec.upto pressMooreSpec)

/-- 'merinolaw08.PressGraham', WHERE WHAT IT READS IS OF BULK AT MOST 1048576: true; the input reads as it did. -/
def pressGrahamUptoRow : OpenClaim := { program := "ythbgeikdamajlab", sum := "2464eaf8f5dba7405bcea1d5df0af802590a7a46ef9bf7ef2f8d6564a7453f37", func := "merino/merinolaw08.PressGraham", spec := "pressGraham", unfollowed := true, recurses := true, apart := false, narrowed := true }
def PressGrahamUptoSaid : Prop := pressGrahamUptoRow.holds Try.pinned (OpenSpec.upto pressGrahamSpec)

/-- 'merinolaw08.PressPacked', WHERE WHAT IT READS IS OF BULK AT MOST 1048576: true; the input reads as it did. -/
def pressPackedUptoRow : OpenClaim := { program := "ythbgeikdamajlab", sum := "2464eaf8f5dba7405bcea1d5df0af802590a7a46ef9bf7ef2f8d6564a7453f37", func := "merino/merinolaw08.PressPacked", spec := "pressPacked", unfollowed := true, recurses := true, apart := false, narrowed := true }
def PressPackedUptoSaid : Prop := pressPackedUptoRow.holds Try.pinned (OpenSpec.upto pressPackedSpec)

/-- 'merinolaw08.PressEases', WHERE WHAT IT READS IS OF BULK AT MOST 1048576: true; the input reads as it did. -/
def pressEasesUptoRow : OpenClaim := { program := "ythbgeikdamajlab", sum := "2464eaf8f5dba7405bcea1d5df0af802590a7a46ef9bf7ef2f8d6564a7453f37", func := "merino/merinolaw08.PressEases", spec := "pressEases", unfollowed := true, recurses := true, apart := false, narrowed := true }
def PressEasesUptoSaid : Prop := pressEasesUptoRow.holds Try.pinned (OpenSpec.upto pressEasesSpec)

/-- 'merinotop.TopDual', WHERE WHAT IT READS IS OF BULK AT MOST 1048576: true; the input reads as it did. -/
def topDualUptoRow : OpenClaim := { program := "ythbgeikdamajlab", sum := "2464eaf8f5dba7405bcea1d5df0af802590a7a46ef9bf7ef2f8d6564a7453f37", func := "merino/merinotop.TopDual", spec := "topDual", unfollowed := true, recurses := true, apart := false, narrowed := true }
def TopDualUptoSaid : Prop := topDualUptoRow.holds Try.pinned (OpenSpec.upto topDualSpec)

/-- 'merinotop.TopShed', WHERE WHAT IT READS IS OF BULK AT MOST 1048576: true; the input reads as it did. -/
def topShedUptoRow : OpenClaim := { program := "ythbgeikdamajlab", sum := "2464eaf8f5dba7405bcea1d5df0af802590a7a46ef9bf7ef2f8d6564a7453f37", func := "merino/merinotop.TopShed", spec := "topShed", unfollowed := true, recurses := true, apart := false, narrowed := true }
def TopShedUptoSaid : Prop := topShedUptoRow.holds Try.pinned (OpenSpec.upto topShedSpec)

end Rows
end Go.Proofs.Ythbgeikdamajlab
