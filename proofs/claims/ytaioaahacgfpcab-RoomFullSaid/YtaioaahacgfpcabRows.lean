/-
  No cell of these rows narrows 'for every input' (looked for: loops, veiled, ifaces, maps, wideKeys, modest, calm, conditions, laid).
  DERIVED. THE GIVEN ROWS OF THIS SEAT. 3 by the template 'for every input the law returns true; each argument reads behind the call as it read before'; 0 by the template 'total and deterministic' (their statements: YtaioaahacgfpcabTotals.lean).
  GIVEN WITH THE SEED: the statements are not yours to turn. If you find one false, say at which input.
  Laid BY PROGRAM, IN A SANDBOX (cutbox-rows.mjs): the forced cells as the released guide's own fill.sh prints them over the translation 6365066ce7f10e82… (all of the seat's roots in one cut). By AI agents, Wed Nov 11 2026. No macro, syntax, notation, axiom, sorry.
-/
import Derived.Test.YtaioaahacgfpcabChecked
import GoSem.Claim
import GoSem.ClaimJoined
import GoSem.ClaimMapViews
import Derived.JoinedTies
import Derived.KernelRfl
namespace Go.Proofs.Ytaioaahacgfpcab
/- THE CELL 'sum', in the pinned program and in every row, IS THE sha256 OF THE DUMP (.gsa) THAT YtaioaahacgfpcabProg.lean LOADS. Nothing in Lean hashes anything: it is a label: what it is worth is what the hold of that sum in a sandbox is worth. -/
noncomputable def Try.pinned : Pinned := { name := "ytaioaahacgfpcab", sum := "6365066ce7f10e82d245e739d240cc33947d9f7af19e23bfbb1b94e394eb11d4", checked := Try.checked }
namespace Rows
def none {H : Type} : Left H := { results := [], args := [] }

/-- 'merinolaw06.RoomPrivate': WHATEVER THE INPUT: true; the input reads as it did. -/
def roomPrivateSpec : ChangeSpec := { name := "roomPrivate", fn := fun _ => fun
  | [d1, d2] => { results := [.lit (.bool true)], args := [d1, d2] }
  | _ => none }
def roomPrivateRow : OpenClaim := { program := "ytaioaahacgfpcab", sum := "6365066ce7f10e82d245e739d240cc33947d9f7af19e23bfbb1b94e394eb11d4", func := "merino/merinolaw06.RoomPrivate", spec := "roomPrivate", unfollowed := true, recurses := true, apart := false }
def RoomPrivateSaid : Prop := roomPrivateRow.holds Try.pinned (OpenSpec.ofChange roomPrivateSpec)

/-- ITS FALSE NEIGHBOUR: 'it returns false'. Refute it at one input. -/
def roomPrivateWrong : ChangeSpec := { name := "roomPrivate", fn := fun _ => fun
  | [d1, d2] => { results := [.lit (.bool false)], args := [d1, d2] }
  | _ => none }
def RoomPrivateWrongFalsely : Prop := roomPrivateRow.holds Try.pinned (OpenSpec.ofChange roomPrivateWrong)

/-- 'merinolaw06.RoomFull': WHATEVER THE INPUT: true; the input reads as it did. -/
def roomFullSpec : ChangeSpec := { name := "roomFull", fn := fun _ => fun
  | [d] => { results := [.lit (.bool true)], args := [d] }
  | _ => none }
def roomFullRow : OpenClaim := { program := "ytaioaahacgfpcab", sum := "6365066ce7f10e82d245e739d240cc33947d9f7af19e23bfbb1b94e394eb11d4", func := "merino/merinolaw06.RoomFull", spec := "roomFull", unfollowed := true, recurses := true, apart := false }
def RoomFullSaid : Prop := roomFullRow.holds Try.pinned (OpenSpec.ofChange roomFullSpec)

/-- ITS FALSE NEIGHBOUR: 'it returns false'. Refute it at one input. -/
def roomFullWrong : ChangeSpec := { name := "roomFull", fn := fun _ => fun
  | [d] => { results := [.lit (.bool false)], args := [d] }
  | _ => none }
def RoomFullWrongFalsely : Prop := roomFullRow.holds Try.pinned (OpenSpec.ofChange roomFullWrong)

/-- 'merinotop.TopEfficient': WHATEVER THE INPUT: true; the input reads as it did. -/
def topEfficientSpec : ChangeSpec := { name := "topEfficient", fn := fun _ => fun
  | [d1, d2, d3] => { results := [.lit (.bool true)], args := [d1, d2, d3] }
  | _ => none }
def topEfficientRow : OpenClaim := { program := "ytaioaahacgfpcab", sum := "6365066ce7f10e82d245e739d240cc33947d9f7af19e23bfbb1b94e394eb11d4", func := "merino/merinotop.TopEfficient", spec := "topEfficient", unfollowed := true, recurses := true, apart := false }
def TopEfficientSaid : Prop := topEfficientRow.holds Try.pinned (OpenSpec.ofChange topEfficientSpec)

/-- ITS FALSE NEIGHBOUR: 'it returns false'. Refute it at one input. -/
def topEfficientWrong : ChangeSpec := { name := "topEfficient", fn := fun _ => fun
  | [d1, d2, d3] => { results := [.lit (.bool false)], args := [d1, d2, d3] }
  | _ => none }
def TopEfficientWrongFalsely : Prop := topEfficientRow.holds Try.pinned (OpenSpec.ofChange topEfficientWrong)

/- THE SECOND FORM. 'bulk': how many values and letters a reading holds, each counted each time it is reached (what is shared counts as often as it is met; a slice's spare places count too). A statement '..UptoSaid' is the law's where the arguments, and the package variables that the reading takes, are together of bulk at most 1048576: NARROWER than '..Said'. Prove '..Said' where nothing that the law and all that it calls make is longer than what came in: it says more and counts as full. Else prove '..UptoSaid'. A law counts once. -/
mutual
def uptoBulk {H : Type} : DataW H → Nat
  | .lit (.string bytes) => bytes.length + 1
  | .lit _ => 1
  | .nil => 1
  | .ptr d => uptoBulk d + 1
  | .slice elems spare => uptoBulkAll elems + uptoBulkAll spare + 1
  | .agg parts => uptoBulkAll parts + 1
  | .iface _ d => uptoBulk d + 1
  | .map entries => uptoBulkEntries entries + 1
  | .held _ => 1
def uptoBulkAll {H : Type} : List (DataW H) → Nat
  | [] => 0
  | d :: r => uptoBulk d + uptoBulkAll r
def uptoBulkEntries {H : Type} : List (Lit × DataW H) → Nat
  | [] => 0
  | x :: r => uptoBulkEntry x + uptoBulkEntries r
def uptoBulkEntry {H : Type} : Lit × DataW H → Nat
  | (.string bytes, d) => bytes.length + uptoBulk d + 1
  | (_, d) => uptoBulk d + 1
 end
def uptoSmall : (H : Type) → List (DataW H) → Bool := fun _ ds => decide (uptoBulkAll ds ≤ 1048576)
def OpenSpec.upto (s : _root_.Go.ChangeSpec) : _root_.Go.OpenSpec := { _root_.Go.OpenSpec.ofChange s with cond := some uptoSmall }

/-- 'merinolaw06.RoomPrivate', WHERE WHAT IT READS IS OF BULK AT MOST 1048576: true; the input reads as it did. -/
def roomPrivateUptoRow : OpenClaim := { program := "ytaioaahacgfpcab", sum := "6365066ce7f10e82d245e739d240cc33947d9f7af19e23bfbb1b94e394eb11d4", func := "merino/merinolaw06.RoomPrivate", spec := "roomPrivate", unfollowed := true, recurses := true, apart := false, narrowed := true }
def RoomPrivateUptoSaid : Prop := roomPrivateUptoRow.holds Try.pinned (OpenSpec.upto roomPrivateSpec)

/-- 'merinolaw06.RoomFull', WHERE WHAT IT READS IS OF BULK AT MOST 1048576: true; the input reads as it did. -/
def roomFullUptoRow : OpenClaim := { program := "ytaioaahacgfpcab", sum := "6365066ce7f10e82d245e739d240cc33947d9f7af19e23bfbb1b94e394eb11d4", func := "merino/merinolaw06.RoomFull", spec := "roomFull", unfollowed := true, recurses := true, apart := false, narrowed := true }
def RoomFullUptoSaid : Prop := roomFullUptoRow.holds Try.pinned (OpenSpec.upto roomFullSpec)

/-- 'merinotop.TopEfficient', WHERE WHAT IT READS IS OF BULK AT MOST 1048576: true; the input reads as it did. -/
def topEfficientUptoRow : OpenClaim := { program := "ytaioaahacgfpcab", sum := "6365066ce7f10e82d245e739d240cc33947d9f7af19e23bfbb1b94e394eb11d4", func := "merino/merinotop.TopEfficient", spec := "topEfficient", unfollowed := true, recurses := true, apart := false, narrowed := true }
def TopEfficientUptoSaid : Prop := topEfficientUptoRow.holds Try.pinned (OpenSpec.upto topEfficientSpec)

end Rows
end Go.Proofs.Ytaioaahacgfpcab
