/-
  No cell of these rows narrows 'for every input' (looked for: loops, veiled, ifaces, maps, wideKeys, modest, calm, conditions, laid).
  DERIVED. THE GIVEN ROWS OF THIS SEAT. 11 by the template 'for every input the law returns true; each argument reads behind the call as it read before'; 0 by the template 'total and deterministic' (their statements: YtaioaahacgfpcaaTotals.lean).
  GIVEN WITH THE SEED: the statements are not yours to turn. If you find one false, say at which input.
  Laid BY PROGRAM, IN A SANDBOX (cutbox-rows.mjs): the forced cells as the released guide's own fill.sh prints them over the translation cec09ee7d654e764… (all of the seat's roots in one cut). By AI agents, Wed Nov 11 2026. No macro, syntax, notation, axiom, sorry.
-/
import Derived.Test.YtaioaahacgfpcaaChecked
import GoSem.Claim
import GoSem.ClaimJoined
import GoSem.ClaimMapViews
import Derived.JoinedTies
import Derived.KernelRfl
namespace Go.Proofs.Ytaioaahacgfpcaa
/- THE CELL 'sum', in the pinned program and in every row, IS THE sha256 OF THE DUMP (.gsa) THAT YtaioaahacgfpcaaProg.lean LOADS. Nothing in Lean hashes anything: it is a label: what it is worth is what the hold of that sum in a sandbox is worth. -/
noncomputable def Try.pinned : Pinned := { name := "ytaioaahacgfpcaa", sum := "cec09ee7d654e7647667978c5eac6091551eae2490de6ba288ca2d45b2deefda", checked := Try.checked }
namespace Rows
def none {H : Type} : Left H := { results := [], args := [] }

/-- 'merinolaw06.RoomPlays': WHATEVER THE INPUT: true; the input reads as it did. -/
def roomPlaysSpec : ChangeSpec := { name := "roomPlays", fn := fun _ => fun
  | [d1, d2] => { results := [.lit (.bool true)], args := [d1, d2] }
  | _ => none }
def roomPlaysRow : OpenClaim := { program := "ytaioaahacgfpcaa", sum := "cec09ee7d654e7647667978c5eac6091551eae2490de6ba288ca2d45b2deefda", func := "merino/merinolaw06.RoomPlays", spec := "roomPlays", unfollowed := true, recurses := true, leaving := true, apart := false }
def RoomPlaysSaid : Prop := roomPlaysRow.holds Try.pinned (OpenSpec.ofChange roomPlaysSpec)

/-- ITS FALSE NEIGHBOUR: 'it returns false'. Refute it at one input. -/
def roomPlaysWrong : ChangeSpec := { name := "roomPlays", fn := fun _ => fun
  | [d1, d2] => { results := [.lit (.bool false)], args := [d1, d2] }
  | _ => none }
def RoomPlaysWrongFalsely : Prop := roomPlaysRow.holds Try.pinned (OpenSpec.ofChange roomPlaysWrong)

/-- 'merinolaw06.RoomLooks': WHATEVER THE INPUT: true; the input reads as it did. -/
def roomLooksSpec : ChangeSpec := { name := "roomLooks", fn := fun _ => fun
  | [d1, d2, d3] => { results := [.lit (.bool true)], args := [d1, d2, d3] }
  | _ => none }
def roomLooksRow : OpenClaim := { program := "ytaioaahacgfpcaa", sum := "cec09ee7d654e7647667978c5eac6091551eae2490de6ba288ca2d45b2deefda", func := "merino/merinolaw06.RoomLooks", spec := "roomLooks", unfollowed := true, recurses := true, leaving := true, apart := false }
def RoomLooksSaid : Prop := roomLooksRow.holds Try.pinned (OpenSpec.ofChange roomLooksSpec)

/-- ITS FALSE NEIGHBOUR: 'it returns false'. Refute it at one input. -/
def roomLooksWrong : ChangeSpec := { name := "roomLooks", fn := fun _ => fun
  | [d1, d2, d3] => { results := [.lit (.bool false)], args := [d1, d2, d3] }
  | _ => none }
def RoomLooksWrongFalsely : Prop := roomLooksRow.holds Try.pinned (OpenSpec.ofChange roomLooksWrong)

/-- 'merinolaw06.RoomCopies': WHATEVER THE INPUT: true; the input reads as it did. -/
def roomCopiesSpec : ChangeSpec := { name := "roomCopies", fn := fun _ => fun
  | [d1, d2, d3] => { results := [.lit (.bool true)], args := [d1, d2, d3] }
  | _ => none }
def roomCopiesRow : OpenClaim := { program := "ytaioaahacgfpcaa", sum := "cec09ee7d654e7647667978c5eac6091551eae2490de6ba288ca2d45b2deefda", func := "merino/merinolaw06.RoomCopies", spec := "roomCopies", inPlace := ["maps.clone"], unfollowed := true, recurses := true, leaving := true, apart := false }
def RoomCopiesSaid : Prop := roomCopiesRow.holds Try.pinned (OpenSpec.ofChange roomCopiesSpec)

/-- ITS FALSE NEIGHBOUR: 'it returns false'. Refute it at one input. -/
def roomCopiesWrong : ChangeSpec := { name := "roomCopies", fn := fun _ => fun
  | [d1, d2, d3] => { results := [.lit (.bool false)], args := [d1, d2, d3] }
  | _ => none }
def RoomCopiesWrongFalsely : Prop := roomCopiesRow.holds Try.pinned (OpenSpec.ofChange roomCopiesWrong)

/-- 'merinolaw06.RoomNobody': WHATEVER THE INPUT: true; the input reads as it did. -/
def roomNobodySpec : ChangeSpec := { name := "roomNobody", fn := fun _ => fun
  | [d1, d2] => { results := [.lit (.bool true)], args := [d1, d2] }
  | _ => none }
def roomNobodyRow : OpenClaim := { program := "ytaioaahacgfpcaa", sum := "cec09ee7d654e7647667978c5eac6091551eae2490de6ba288ca2d45b2deefda", func := "merino/merinolaw06.RoomNobody", spec := "roomNobody", inPlace := ["maps.clone", "(*sync.WaitGroup).Add", "internal/race.ReleaseMerge", "internal/race.Disable", "internal/race.Enable", "internal/synctest.IsInBubble", "internal/synctest.Associate[sync.WaitGroup]", "sync.fatal", "sync/atomic.OrUint64", "sync/atomic.AddUint64", "internal/race.Read", "sync/atomic.LoadUint64", "sync/atomic.StoreUint64", "internal/synctest.Disassociate[sync.WaitGroup]", "sync.runtime_Semrelease", "(*sync.WaitGroup).Done", "(*sync.WaitGroup).Wait", "internal/race.Acquire", "internal/synctest.IsAssociated[sync.WaitGroup]", "sync/atomic.CompareAndSwapUint64", "internal/race.Write", "sync.runtime_SemacquireWaitGroup"], unfollowed := true, recurses := true, leaving := true, apart := false }
def RoomNobodySaid : Prop := roomNobodyRow.holds Try.pinned (OpenSpec.ofChange roomNobodySpec)

/-- ITS FALSE NEIGHBOUR: 'it returns false'. Refute it at one input. -/
def roomNobodyWrong : ChangeSpec := { name := "roomNobody", fn := fun _ => fun
  | [d1, d2] => { results := [.lit (.bool false)], args := [d1, d2] }
  | _ => none }
def RoomNobodyWrongFalsely : Prop := roomNobodyRow.holds Try.pinned (OpenSpec.ofChange roomNobodyWrong)

/-- 'merinolaw06.RoomSecond': WHATEVER THE INPUT: true; the input reads as it did. -/
def roomSecondSpec : ChangeSpec := { name := "roomSecond", fn := fun _ => fun
  | [d] => { results := [.lit (.bool true)], args := [d] }
  | _ => none }
def roomSecondRow : OpenClaim := { program := "ytaioaahacgfpcaa", sum := "cec09ee7d654e7647667978c5eac6091551eae2490de6ba288ca2d45b2deefda", func := "merino/merinolaw06.RoomSecond", spec := "roomSecond", unfollowed := true, recurses := true, leaving := true, apart := false }
def RoomSecondSaid : Prop := roomSecondRow.holds Try.pinned (OpenSpec.ofChange roomSecondSpec)

/-- ITS FALSE NEIGHBOUR: 'it returns false'. Refute it at one input. -/
def roomSecondWrong : ChangeSpec := { name := "roomSecond", fn := fun _ => fun
  | [d] => { results := [.lit (.bool false)], args := [d] }
  | _ => none }
def RoomSecondWrongFalsely : Prop := roomSecondRow.holds Try.pinned (OpenSpec.ofChange roomSecondWrong)

/-- 'merinolaw06.RoomRaises': WHATEVER THE INPUT: true; the input reads as it did. -/
def roomRaisesSpec : ChangeSpec := { name := "roomRaises", fn := fun _ => fun
  | [d1, d2] => { results := [.lit (.bool true)], args := [d1, d2] }
  | _ => none }
def roomRaisesRow : OpenClaim := { program := "ytaioaahacgfpcaa", sum := "cec09ee7d654e7647667978c5eac6091551eae2490de6ba288ca2d45b2deefda", func := "merino/merinolaw06.RoomRaises", spec := "roomRaises", unfollowed := true, recurses := true, leaving := true, apart := false }
def RoomRaisesSaid : Prop := roomRaisesRow.holds Try.pinned (OpenSpec.ofChange roomRaisesSpec)

/-- ITS FALSE NEIGHBOUR: 'it returns false'. Refute it at one input. -/
def roomRaisesWrong : ChangeSpec := { name := "roomRaises", fn := fun _ => fun
  | [d1, d2] => { results := [.lit (.bool false)], args := [d1, d2] }
  | _ => none }
def RoomRaisesWrongFalsely : Prop := roomRaisesRow.holds Try.pinned (OpenSpec.ofChange roomRaisesWrong)

/-- 'merinolaw06.RoomCredit': WHATEVER THE INPUT: true; the input reads as it did. -/
def roomCreditSpec : ChangeSpec := { name := "roomCredit", fn := fun _ => fun
  | [d] => { results := [.lit (.bool true)], args := [d] }
  | _ => none }
def roomCreditRow : OpenClaim := { program := "ytaioaahacgfpcaa", sum := "cec09ee7d654e7647667978c5eac6091551eae2490de6ba288ca2d45b2deefda", func := "merino/merinolaw06.RoomCredit", spec := "roomCredit", unfollowed := true, recurses := true, leaving := true, apart := false }
def RoomCreditSaid : Prop := roomCreditRow.holds Try.pinned (OpenSpec.ofChange roomCreditSpec)

/-- ITS FALSE NEIGHBOUR: 'it returns false'. Refute it at one input. -/
def roomCreditWrong : ChangeSpec := { name := "roomCredit", fn := fun _ => fun
  | [d] => { results := [.lit (.bool false)], args := [d] }
  | _ => none }
def RoomCreditWrongFalsely : Prop := roomCreditRow.holds Try.pinned (OpenSpec.ofChange roomCreditWrong)

/-- 'merinolaw06.RoomOrder': WHATEVER THE INPUT: true; the input reads as it did. -/
def roomOrderSpec : ChangeSpec := { name := "roomOrder", fn := fun _ => fun
  | [d1, d2, d3] => { results := [.lit (.bool true)], args := [d1, d2, d3] }
  | _ => none }
def roomOrderRow : OpenClaim := { program := "ytaioaahacgfpcaa", sum := "cec09ee7d654e7647667978c5eac6091551eae2490de6ba288ca2d45b2deefda", func := "merino/merinolaw06.RoomOrder", spec := "roomOrder", inPlace := ["maps.clone", "(*sync.WaitGroup).Add", "internal/race.ReleaseMerge", "internal/race.Disable", "internal/race.Enable", "internal/synctest.IsInBubble", "internal/synctest.Associate[sync.WaitGroup]", "sync.fatal", "sync/atomic.OrUint64", "sync/atomic.AddUint64", "internal/race.Read", "sync/atomic.LoadUint64", "sync/atomic.StoreUint64", "internal/synctest.Disassociate[sync.WaitGroup]", "sync.runtime_Semrelease", "(*sync.WaitGroup).Done", "(*sync.WaitGroup).Wait", "internal/race.Acquire", "internal/synctest.IsAssociated[sync.WaitGroup]", "sync/atomic.CompareAndSwapUint64", "internal/race.Write", "sync.runtime_SemacquireWaitGroup"], unfollowed := true, recurses := true, leaving := true, apart := false }
def RoomOrderSaid : Prop := roomOrderRow.holds Try.pinned (OpenSpec.ofChange roomOrderSpec)

/-- ITS FALSE NEIGHBOUR: 'it returns false'. Refute it at one input. -/
def roomOrderWrong : ChangeSpec := { name := "roomOrder", fn := fun _ => fun
  | [d1, d2, d3] => { results := [.lit (.bool false)], args := [d1, d2, d3] }
  | _ => none }
def RoomOrderWrongFalsely : Prop := roomOrderRow.holds Try.pinned (OpenSpec.ofChange roomOrderWrong)

/-- 'merinolaw06.RoomApart': WHATEVER THE INPUT: true; the input reads as it did. -/
def roomApartSpec : ChangeSpec := { name := "roomApart", fn := fun _ => fun
  | [d1, d2, d3] => { results := [.lit (.bool true)], args := [d1, d2, d3] }
  | _ => none }
def roomApartRow : OpenClaim := { program := "ytaioaahacgfpcaa", sum := "cec09ee7d654e7647667978c5eac6091551eae2490de6ba288ca2d45b2deefda", func := "merino/merinolaw06.RoomApart", spec := "roomApart", inPlace := ["maps.clone", "(*sync.WaitGroup).Add", "internal/race.ReleaseMerge", "internal/race.Disable", "internal/race.Enable", "internal/synctest.IsInBubble", "internal/synctest.Associate[sync.WaitGroup]", "sync.fatal", "sync/atomic.OrUint64", "sync/atomic.AddUint64", "internal/race.Read", "sync/atomic.LoadUint64", "sync/atomic.StoreUint64", "internal/synctest.Disassociate[sync.WaitGroup]", "sync.runtime_Semrelease", "(*sync.WaitGroup).Done", "(*sync.WaitGroup).Wait", "internal/race.Acquire", "internal/synctest.IsAssociated[sync.WaitGroup]", "sync/atomic.CompareAndSwapUint64", "internal/race.Write", "sync.runtime_SemacquireWaitGroup"], unfollowed := true, recurses := true, leaving := true, apart := false }
def RoomApartSaid : Prop := roomApartRow.holds Try.pinned (OpenSpec.ofChange roomApartSpec)

/-- ITS FALSE NEIGHBOUR: 'it returns false'. Refute it at one input. -/
def roomApartWrong : ChangeSpec := { name := "roomApart", fn := fun _ => fun
  | [d1, d2, d3] => { results := [.lit (.bool false)], args := [d1, d2, d3] }
  | _ => none }
def RoomApartWrongFalsely : Prop := roomApartRow.holds Try.pinned (OpenSpec.ofChange roomApartWrong)

/-- 'merinolaw06.RoomLife': WHATEVER THE INPUT: true; the input reads as it did. -/
def roomLifeSpec : ChangeSpec := { name := "roomLife", fn := fun _ => fun
  | [d] => { results := [.lit (.bool true)], args := [d] }
  | _ => none }
def roomLifeRow : OpenClaim := { program := "ytaioaahacgfpcaa", sum := "cec09ee7d654e7647667978c5eac6091551eae2490de6ba288ca2d45b2deefda", func := "merino/merinolaw06.RoomLife", spec := "roomLife", unfollowed := true, recurses := true, leaving := true, apart := false }
def RoomLifeSaid : Prop := roomLifeRow.holds Try.pinned (OpenSpec.ofChange roomLifeSpec)

/-- ITS FALSE NEIGHBOUR: 'it returns false'. Refute it at one input. -/
def roomLifeWrong : ChangeSpec := { name := "roomLife", fn := fun _ => fun
  | [d] => { results := [.lit (.bool false)], args := [d] }
  | _ => none }
def RoomLifeWrongFalsely : Prop := roomLifeRow.holds Try.pinned (OpenSpec.ofChange roomLifeWrong)

/-- 'merinolaw06.RoomRefuses': WHATEVER THE INPUT: true; the input reads as it did. -/
def roomRefusesSpec : ChangeSpec := { name := "roomRefuses", fn := fun _ => fun
  | [d1, d2, d3] => { results := [.lit (.bool true)], args := [d1, d2, d3] }
  | _ => none }
def roomRefusesRow : OpenClaim := { program := "ytaioaahacgfpcaa", sum := "cec09ee7d654e7647667978c5eac6091551eae2490de6ba288ca2d45b2deefda", func := "merino/merinolaw06.RoomRefuses", spec := "roomRefuses", inPlace := ["maps.clone"], unfollowed := true, recurses := true, leaving := true, apart := false }
def RoomRefusesSaid : Prop := roomRefusesRow.holds Try.pinned (OpenSpec.ofChange roomRefusesSpec)

/-- ITS FALSE NEIGHBOUR: 'it returns false'. Refute it at one input. -/
def roomRefusesWrong : ChangeSpec := { name := "roomRefuses", fn := fun _ => fun
  | [d1, d2, d3] => { results := [.lit (.bool false)], args := [d1, d2, d3] }
  | _ => none }
def RoomRefusesWrongFalsely : Prop := roomRefusesRow.holds Try.pinned (OpenSpec.ofChange roomRefusesWrong)

/- THE SECOND FORM. 'bulk': how many values and letters a reading holds, each counted each time it is reached (what is shared counts as often as it is met; a slice's spare places count too). A statement '..UptoSaid' is the law's where the arguments, and the package variables that the reading takes, are together of bulk at most 1048576: NARROWER than '..Said'. Prove '..Said' where nothing that the law and all that it calls make is longer than what came in: it says more and counts as full. Else prove '..UptoSaid'. A law counts once. -/
mutual
def uptoBulk {H : Type} : DataW H → Nat
  | .lit (.string bytes) => bytes.length + 1
  | .lit _ => 1
  | .nil => 1
  | .ptr d => uptoBulk d + 1
  | .slice elems spare => uptoBulkAll elems + uptoBulkAll spare + 1
  | .agg parts => uptoBulkAll parts + 1
  | .iface _ d => uptoBulk d + 1
  | .map entries => uptoBulkEntries entries + 1
  | .held _ => 1
def uptoBulkAll {H : Type} : List (DataW H) → Nat
  | [] => 0
  | d :: r => uptoBulk d + uptoBulkAll r
def uptoBulkEntries {H : Type} : List (Lit × DataW H) → Nat
  | [] => 0
  | x :: r => uptoBulkEntry x + uptoBulkEntries r
def uptoBulkEntry {H : Type} : Lit × DataW H → Nat
  | (.string bytes, d) => bytes.length + uptoBulk d + 1
  | (_, d) => uptoBulk d + 1
 end
def uptoSmall : (H : Type) → List (DataW H) → Bool := fun _ ds => decide (uptoBulkAll ds ≤ 1048576)
def OpenSpec.upto (s : _root_.Go.ChangeSpec) : _root_.Go.OpenSpec := { _root_.Go.OpenSpec.ofChange s with cond := some uptoSmall }

/-- 'merinolaw06.RoomPlays', WHERE WHAT IT READS IS OF BULK AT MOST 1048576: true; the input reads as it did. -/
def roomPlaysUptoRow : OpenClaim := { program := "ytaioaahacgfpcaa", sum := "cec09ee7d654e7647667978c5eac6091551eae2490de6ba288ca2d45b2deefda", func := "merino/merinolaw06.RoomPlays", spec := "roomPlays", unfollowed := true, recurses := true, leaving := true, apart := false, narrowed := true }
def RoomPlaysUptoSaid : Prop := roomPlaysUptoRow.holds Try.pinned (OpenSpec.upto roomPlaysSpec)

/-- 'merinolaw06.RoomLooks', WHERE WHAT IT READS IS OF BULK AT MOST 1048576: true; the input reads as it did. -/
def roomLooksUptoRow : OpenClaim := { program := "ytaioaahacgfpcaa", sum := "cec09ee7d654e7647667978c5eac6091551eae2490de6ba288ca2d45b2deefda", func := "merino/merinolaw06.RoomLooks", spec := "roomLooks", unfollowed := true, recurses := true, leaving := true, apart := false, narrowed := true }
def RoomLooksUptoSaid : Prop := roomLooksUptoRow.holds Try.pinned (OpenSpec.upto roomLooksSpec)

/-- 'merinolaw06.RoomCopies', WHERE WHAT IT READS IS OF BULK AT MOST 1048576: true; the input reads as it did. -/
def roomCopiesUptoRow : OpenClaim := { program := "ytaioaahacgfpcaa", sum := "cec09ee7d654e7647667978c5eac6091551eae2490de6ba288ca2d45b2deefda", func := "merino/merinolaw06.RoomCopies", spec := "roomCopies", inPlace := ["maps.clone"], unfollowed := true, recurses := true, leaving := true, apart := false, narrowed := true }
def RoomCopiesUptoSaid : Prop := roomCopiesUptoRow.holds Try.pinned (OpenSpec.upto roomCopiesSpec)

/-- 'merinolaw06.RoomNobody', WHERE WHAT IT READS IS OF BULK AT MOST 1048576: true; the input reads as it did. -/
def roomNobodyUptoRow : OpenClaim := { program := "ytaioaahacgfpcaa", sum := "cec09ee7d654e7647667978c5eac6091551eae2490de6ba288ca2d45b2deefda", func := "merino/merinolaw06.RoomNobody", spec := "roomNobody", inPlace := ["maps.clone", "(*sync.WaitGroup).Add", "internal/race.ReleaseMerge", "internal/race.Disable", "internal/race.Enable", "internal/synctest.IsInBubble", "internal/synctest.Associate[sync.WaitGroup]", "sync.fatal", "sync/atomic.OrUint64", "sync/atomic.AddUint64", "internal/race.Read", "sync/atomic.LoadUint64", "sync/atomic.StoreUint64", "internal/synctest.Disassociate[sync.WaitGroup]", "sync.runtime_Semrelease", "(*sync.WaitGroup).Done", "(*sync.WaitGroup).Wait", "internal/race.Acquire", "internal/synctest.IsAssociated[sync.WaitGroup]", "sync/atomic.CompareAndSwapUint64", "internal/race.Write", "sync.runtime_SemacquireWaitGroup"], unfollowed := true, recurses := true, leaving := true, apart := false, narrowed := true }
def RoomNobodyUptoSaid : Prop := roomNobodyUptoRow.holds Try.pinned (OpenSpec.upto roomNobodySpec)

/-- 'merinolaw06.RoomSecond', WHERE WHAT IT READS IS OF BULK AT MOST 1048576: true; the input reads as it did. -/
def roomSecondUptoRow : OpenClaim := { program := "ytaioaahacgfpcaa", sum := "cec09ee7d654e7647667978c5eac6091551eae2490de6ba288ca2d45b2deefda", func := "merino/merinolaw06.RoomSecond", spec := "roomSecond", unfollowed := true, recurses := true, leaving := true, apart := false, narrowed := true }
def RoomSecondUptoSaid : Prop := roomSecondUptoRow.holds Try.pinned (OpenSpec.upto roomSecondSpec)

/-- 'merinolaw06.RoomRaises', WHERE WHAT IT READS IS OF BULK AT MOST 1048576: true; the input reads as it did. -/
def roomRaisesUptoRow : OpenClaim := { program := "ytaioaahacgfpcaa", sum := "cec09ee7d654e7647667978c5eac6091551eae2490de6ba288ca2d45b2deefda", func := "merino/merinolaw06.RoomRaises", spec := "roomRaises", unfollowed := true, recurses := true, leaving := true, apart := false, narrowed := true }
def RoomRaisesUptoSaid : Prop := roomRaisesUptoRow.holds Try.pinned (OpenSpec.upto roomRaisesSpec)

/-- 'merinolaw06.RoomCredit', WHERE WHAT IT READS IS OF BULK AT MOST 1048576: true; the input reads as it did. -/
def roomCreditUptoRow : OpenClaim := { program := "ytaioaahacgfpcaa", sum := "cec09ee7d654e7647667978c5eac6091551eae2490de6ba288ca2d45b2deefda", func := "merino/merinolaw06.RoomCredit", spec := "roomCredit", unfollowed := true, recurses := true, leaving := true, apart := false, narrowed := true }
def RoomCreditUptoSaid : Prop := roomCreditUptoRow.holds Try.pinned (OpenSpec.upto roomCreditSpec)

/-- 'merinolaw06.RoomOrder', WHERE WHAT IT READS IS OF BULK AT MOST 1048576: true; the input reads as it did. -/
def roomOrderUptoRow : OpenClaim := { program := "ytaioaahacgfpcaa", sum := "cec09ee7d654e7647667978c5eac6091551eae2490de6ba288ca2d45b2deefda", func := "merino/merinolaw06.RoomOrder", spec := "roomOrder", inPlace := ["maps.clone", "(*sync.WaitGroup).Add", "internal/race.ReleaseMerge", "internal/race.Disable", "internal/race.Enable", "internal/synctest.IsInBubble", "internal/synctest.Associate[sync.WaitGroup]", "sync.fatal", "sync/atomic.OrUint64", "sync/atomic.AddUint64", "internal/race.Read", "sync/atomic.LoadUint64", "sync/atomic.StoreUint64", "internal/synctest.Disassociate[sync.WaitGroup]", "sync.runtime_Semrelease", "(*sync.WaitGroup).Done", "(*sync.WaitGroup).Wait", "internal/race.Acquire", "internal/synctest.IsAssociated[sync.WaitGroup]", "sync/atomic.CompareAndSwapUint64", "internal/race.Write", "sync.runtime_SemacquireWaitGroup"], unfollowed := true, recurses := true, leaving := true, apart := false, narrowed := true }
def RoomOrderUptoSaid : Prop := roomOrderUptoRow.holds Try.pinned (OpenSpec.upto roomOrderSpec)

/-- 'merinolaw06.RoomApart', WHERE WHAT IT READS IS OF BULK AT MOST 1048576: true; the input reads as it did. -/
def roomApartUptoRow : OpenClaim := { program := "ytaioaahacgfpcaa", sum := "cec09ee7d654e7647667978c5eac6091551eae2490de6ba288ca2d45b2deefda", func := "merino/merinolaw06.RoomApart", spec := "roomApart", inPlace := ["maps.clone", "(*sync.WaitGroup).Add", "internal/race.ReleaseMerge", "internal/race.Disable", "internal/race.Enable", "internal/synctest.IsInBubble", "internal/synctest.Associate[sync.WaitGroup]", "sync.fatal", "sync/atomic.OrUint64", "sync/atomic.AddUint64", "internal/race.Read", "sync/atomic.LoadUint64", "sync/atomic.StoreUint64", "internal/synctest.Disassociate[sync.WaitGroup]", "sync.runtime_Semrelease", "(*sync.WaitGroup).Done", "(*sync.WaitGroup).Wait", "internal/race.Acquire", "internal/synctest.IsAssociated[sync.WaitGroup]", "sync/atomic.CompareAndSwapUint64", "internal/race.Write", "sync.runtime_SemacquireWaitGroup"], unfollowed := true, recurses := true, leaving := true, apart := false, narrowed := true }
def RoomApartUptoSaid : Prop := roomApartUptoRow.holds Try.pinned (OpenSpec.upto roomApartSpec)

/-- 'merinolaw06.RoomLife', WHERE WHAT IT READS IS OF BULK AT MOST 1048576: true; the input reads as it did. -/
def roomLifeUptoRow : OpenClaim := { program := "ytaioaahacgfpcaa", sum := "cec09ee7d654e7647667978c5eac6091551eae2490de6ba288ca2d45b2deefda", func := "merino/merinolaw06.RoomLife", spec := "roomLife", unfollowed := true, recurses := true, leaving := true, apart := false, narrowed := true }
def RoomLifeUptoSaid : Prop := roomLifeUptoRow.holds Try.pinned (OpenSpec.upto roomLifeSpec)

/-- 'merinolaw06.RoomRefuses', WHERE WHAT IT READS IS OF BULK AT MOST 1048576: true; the input reads as it did. -/
def roomRefusesUptoRow : OpenClaim := { program := "ytaioaahacgfpcaa", sum := "cec09ee7d654e7647667978c5eac6091551eae2490de6ba288ca2d45b2deefda", func := "merino/merinolaw06.RoomRefuses", spec := "roomRefuses", inPlace := ["maps.clone"], unfollowed := true, recurses := true, leaving := true, apart := false, narrowed := true }
def RoomRefusesUptoSaid : Prop := roomRefusesUptoRow.holds Try.pinned (OpenSpec.upto roomRefusesSpec)

end Rows
end Go.Proofs.Ytaioaahacgfpcaa
