/-
  No cell of these rows narrows 'for every input' (looked for: loops, veiled, ifaces, maps, wideKeys, modest, calm, conditions, laid).
  DERIVED. THE GIVEN ROWS OF THIS SEAT. 8 by the template 'for every input the law returns true; each argument reads behind the call as it read before'; 0 by the template 'total and deterministic' (their statements: YthfnaegfjacjbabTotals.lean).
  GIVEN WITH THE SEED: the statements are not yours to turn. If you find one false, say at which input.
  Laid BY PROGRAM, IN A SANDBOX (cutbox-rows.mjs): the forced cells as the released guide's own fill.sh prints them over the translation 8e7d1173117dee35… (all of the seat's roots in one cut). By AI agents, Wed Nov 11 2026. No macro, syntax, notation, axiom, sorry.
-/
import Derived.Test.YthfnaegfjacjbabChecked
import GoSem.Claim
import GoSem.ClaimJoined
import GoSem.ClaimMapViews
import Derived.JoinedTies
import Derived.KernelRfl
namespace Go.Proofs.Ythfnaegfjacjbab
/- THE CELL 'sum', in the pinned program and in every row, IS THE sha256 OF THE DUMP (.gsa) THAT YthfnaegfjacjbabProg.lean LOADS. Nothing in Lean hashes anything: it is a label: what it is worth is what the hold of that sum in a sandbox is worth. -/
noncomputable def Try.pinned : Pinned := { name := "ythfnaegfjacjbab", sum := "8e7d1173117dee35843e59d05cb183d457fec97647c64b2c3a757659e506b3fa", checked := Try.checked }
namespace Rows
def none {H : Type} : Left H := { results := [], args := [] }

/-- 'merinolaw07.AccountsDates': WHATEVER THE INPUT: true; the input reads as it did. -/
def accountsDatesSpec : ChangeSpec := { name := "accountsDates", fn := fun _ => fun
  | [d1, d2] => { results := [.lit (.bool true)], args := [d1, d2] }
  | _ => none }
def accountsDatesRow : OpenClaim := { program := "ythfnaegfjacjbab", sum := "8e7d1173117dee35843e59d05cb183d457fec97647c64b2c3a757659e506b3fa", func := "merino/merinolaw07.AccountsDates", spec := "accountsDates", inPlace := ["maps.clone"], unfollowed := true, recurses := true, named := ["math/bits.divideError", "math/bits.overflowError"], apart := false }
def AccountsDatesSaid : Prop := accountsDatesRow.holds Try.pinned (OpenSpec.ofChange accountsDatesSpec)

/-- ITS FALSE NEIGHBOUR: 'it returns false'. Refute it at one input. -/
def accountsDatesWrong : ChangeSpec := { name := "accountsDates", fn := fun _ => fun
  | [d1, d2] => { results := [.lit (.bool false)], args := [d1, d2] }
  | _ => none }
def AccountsDatesWrongFalsely : Prop := accountsDatesRow.holds Try.pinned (OpenSpec.ofChange accountsDatesWrong)

/-- 'merinolaw07.AccountsWorking': WHATEVER THE INPUT: true; the input reads as it did. -/
def accountsWorkingSpec : ChangeSpec := { name := "accountsWorking", fn := fun _ => fun
  | [d1, d2, d3] => { results := [.lit (.bool true)], args := [d1, d2, d3] }
  | _ => none }
def accountsWorkingRow : OpenClaim := { program := "ythfnaegfjacjbab", sum := "8e7d1173117dee35843e59d05cb183d457fec97647c64b2c3a757659e506b3fa", func := "merino/merinolaw07.AccountsWorking", spec := "accountsWorking", inPlace := ["maps.clone"], unfollowed := true, recurses := true, named := ["math/bits.divideError", "math/bits.overflowError"], apart := false }
def AccountsWorkingSaid : Prop := accountsWorkingRow.holds Try.pinned (OpenSpec.ofChange accountsWorkingSpec)

/-- ITS FALSE NEIGHBOUR: 'it returns false'. Refute it at one input. -/
def accountsWorkingWrong : ChangeSpec := { name := "accountsWorking", fn := fun _ => fun
  | [d1, d2, d3] => { results := [.lit (.bool false)], args := [d1, d2, d3] }
  | _ => none }
def AccountsWorkingWrongFalsely : Prop := accountsWorkingRow.holds Try.pinned (OpenSpec.ofChange accountsWorkingWrong)

/-- 'merinolaw07.AccountsCharges': WHATEVER THE INPUT: true; the input reads as it did. -/
def accountsChargesSpec : ChangeSpec := { name := "accountsCharges", fn := fun _ => fun
  | [d1, d2, d3, d4, d5] => { results := [.lit (.bool true)], args := [d1, d2, d3, d4, d5] }
  | _ => none }
def accountsChargesRow : OpenClaim := { program := "ythfnaegfjacjbab", sum := "8e7d1173117dee35843e59d05cb183d457fec97647c64b2c3a757659e506b3fa", func := "merino/merinolaw07.AccountsCharges", spec := "accountsCharges", inPlace := ["maps.clone"], unfollowed := true, recurses := true, named := ["math/bits.divideError", "math/bits.overflowError"], apart := false }
def AccountsChargesSaid : Prop := accountsChargesRow.holds Try.pinned (OpenSpec.ofChange accountsChargesSpec)

/-- ITS FALSE NEIGHBOUR: 'it returns false'. Refute it at one input. -/
def accountsChargesWrong : ChangeSpec := { name := "accountsCharges", fn := fun _ => fun
  | [d1, d2, d3, d4, d5] => { results := [.lit (.bool false)], args := [d1, d2, d3, d4, d5] }
  | _ => none }
def AccountsChargesWrongFalsely : Prop := accountsChargesRow.holds Try.pinned (OpenSpec.ofChange accountsChargesWrong)

/-- 'merinolaw07.AccountsVerifies': WHATEVER THE INPUT: true; the input reads as it did. -/
def accountsVerifiesSpec : ChangeSpec := { name := "accountsVerifies", fn := fun _ => fun
  | [d] => { results := [.lit (.bool true)], args := [d] }
  | _ => none }
def accountsVerifiesRow : OpenClaim := { program := "ythfnaegfjacjbab", sum := "8e7d1173117dee35843e59d05cb183d457fec97647c64b2c3a757659e506b3fa", func := "merino/merinolaw07.AccountsVerifies", spec := "accountsVerifies", inPlace := ["maps.clone"], unfollowed := true, recurses := true, named := ["math/bits.divideError", "math/bits.overflowError"], apart := false }
def AccountsVerifiesSaid : Prop := accountsVerifiesRow.holds Try.pinned (OpenSpec.ofChange accountsVerifiesSpec)

/-- ITS FALSE NEIGHBOUR: 'it returns false'. Refute it at one input. -/
def accountsVerifiesWrong : ChangeSpec := { name := "accountsVerifies", fn := fun _ => fun
  | [d] => { results := [.lit (.bool false)], args := [d] }
  | _ => none }
def AccountsVerifiesWrongFalsely : Prop := accountsVerifiesRow.holds Try.pinned (OpenSpec.ofChange accountsVerifiesWrong)

/-- 'merinolaw07.AccountsNobody': WHATEVER THE INPUT: true; the input reads as it did. -/
def accountsNobodySpec : ChangeSpec := { name := "accountsNobody", fn := fun _ => fun
  | [d1, d2] => { results := [.lit (.bool true)], args := [d1, d2] }
  | _ => none }
def accountsNobodyRow : OpenClaim := { program := "ythfnaegfjacjbab", sum := "8e7d1173117dee35843e59d05cb183d457fec97647c64b2c3a757659e506b3fa", func := "merino/merinolaw07.AccountsNobody", spec := "accountsNobody", inPlace := ["maps.clone"], unfollowed := true, recurses := true, named := ["math/bits.divideError", "math/bits.overflowError"], apart := false }
def AccountsNobodySaid : Prop := accountsNobodyRow.holds Try.pinned (OpenSpec.ofChange accountsNobodySpec)

/-- ITS FALSE NEIGHBOUR: 'it returns false'. Refute it at one input. -/
def accountsNobodyWrong : ChangeSpec := { name := "accountsNobody", fn := fun _ => fun
  | [d1, d2] => { results := [.lit (.bool false)], args := [d1, d2] }
  | _ => none }
def AccountsNobodyWrongFalsely : Prop := accountsNobodyRow.holds Try.pinned (OpenSpec.ofChange accountsNobodyWrong)

/-- 'merinolaw07.AccountsCalendar': WHATEVER THE INPUT: true; the input reads as it did. -/
def accountsCalendarSpec : ChangeSpec := { name := "accountsCalendar", fn := fun _ => fun
  | [d] => { results := [.lit (.bool true)], args := [d] }
  | _ => none }
def accountsCalendarRow : OpenClaim := { program := "ythfnaegfjacjbab", sum := "8e7d1173117dee35843e59d05cb183d457fec97647c64b2c3a757659e506b3fa", func := "merino/merinolaw07.AccountsCalendar", spec := "accountsCalendar", inPlace := ["maps.clone"], unfollowed := true, recurses := true, named := ["math/bits.divideError", "math/bits.overflowError"], apart := false }
def AccountsCalendarSaid : Prop := accountsCalendarRow.holds Try.pinned (OpenSpec.ofChange accountsCalendarSpec)

/-- ITS FALSE NEIGHBOUR: 'it returns false'. Refute it at one input. -/
def accountsCalendarWrong : ChangeSpec := { name := "accountsCalendar", fn := fun _ => fun
  | [d] => { results := [.lit (.bool false)], args := [d] }
  | _ => none }
def AccountsCalendarWrongFalsely : Prop := accountsCalendarRow.holds Try.pinned (OpenSpec.ofChange accountsCalendarWrong)

/-- 'merinolaw07.AccountsPrompt': WHATEVER THE INPUT: true; the input reads as it did. -/
def accountsPromptSpec : ChangeSpec := { name := "accountsPrompt", fn := fun _ => fun
  | [d1, d2, d3, d4] => { results := [.lit (.bool true)], args := [d1, d2, d3, d4] }
  | _ => none }
def accountsPromptRow : OpenClaim := { program := "ythfnaegfjacjbab", sum := "8e7d1173117dee35843e59d05cb183d457fec97647c64b2c3a757659e506b3fa", func := "merino/merinolaw07.AccountsPrompt", spec := "accountsPrompt", inPlace := ["maps.clone"], unfollowed := true, recurses := true, named := ["math/bits.divideError", "math/bits.overflowError"], apart := false }
def AccountsPromptSaid : Prop := accountsPromptRow.holds Try.pinned (OpenSpec.ofChange accountsPromptSpec)

/-- ITS FALSE NEIGHBOUR: 'it returns false'. Refute it at one input. -/
def accountsPromptWrong : ChangeSpec := { name := "accountsPrompt", fn := fun _ => fun
  | [d1, d2, d3, d4] => { results := [.lit (.bool false)], args := [d1, d2, d3, d4] }
  | _ => none }
def AccountsPromptWrongFalsely : Prop := accountsPromptRow.holds Try.pinned (OpenSpec.ofChange accountsPromptWrong)

/-- 'merinolaw07.AccountsGrows': WHATEVER THE INPUT: true; the input reads as it did. -/
def accountsGrowsSpec : ChangeSpec := { name := "accountsGrows", fn := fun _ => fun
  | [d1, d2, d3] => { results := [.lit (.bool true)], args := [d1, d2, d3] }
  | _ => none }
def accountsGrowsRow : OpenClaim := { program := "ythfnaegfjacjbab", sum := "8e7d1173117dee35843e59d05cb183d457fec97647c64b2c3a757659e506b3fa", func := "merino/merinolaw07.AccountsGrows", spec := "accountsGrows", inPlace := ["maps.clone"], unfollowed := true, recurses := true, named := ["math/bits.divideError", "math/bits.overflowError"], apart := false }
def AccountsGrowsSaid : Prop := accountsGrowsRow.holds Try.pinned (OpenSpec.ofChange accountsGrowsSpec)

/-- ITS FALSE NEIGHBOUR: 'it returns false'. Refute it at one input. -/
def accountsGrowsWrong : ChangeSpec := { name := "accountsGrows", fn := fun _ => fun
  | [d1, d2, d3] => { results := [.lit (.bool false)], args := [d1, d2, d3] }
  | _ => none }
def AccountsGrowsWrongFalsely : Prop := accountsGrowsRow.holds Try.pinned (OpenSpec.ofChange accountsGrowsWrong)

/- THE SECOND FORM. 'bulk': how many values and letters a reading holds, each counted each time it is reached (what is shared counts as often as it is met; a slice's spare places count too). A statement '..UptoSaid' is the law's where the arguments, and the package variables that the reading takes, are together of bulk at most 1048576: NARROWER than '..Said'. Prove '..Said' where nothing that the law and all that it calls make is longer than what came in: it says more and counts as full. Else prove '..UptoSaid'. A law counts once. -/
mutual
def uptoBulk {H : Type} : DataW H → Nat
  | .lit (.string bytes) => bytes.length + 1
  | .lit _ => 1
  | .nil => 1
  | .ptr d => uptoBulk d + 1
  | .slice elems spare => uptoBulkAll elems + uptoBulkAll spare + 1
  | .agg parts => uptoBulkAll parts + 1
  | .iface _ d => uptoBulk d + 1
  | .map entries => uptoBulkEntries entries + 1
  | .held _ => 1
def uptoBulkAll {H : Type} : List (DataW H) → Nat
  | [] => 0
  | d :: r => uptoBulk d + uptoBulkAll r
def uptoBulkEntries {H : Type} : List (Lit × DataW H) → Nat
  | [] => 0
  | x :: r => uptoBulkEntry x + uptoBulkEntries r
def uptoBulkEntry {H : Type} : Lit × DataW H → Nat
  | (.string bytes, d) => bytes.length + uptoBulk d + 1
  | (_, d) => uptoBulk d + 1
 end
def uptoSmall : (H : Type) → List (DataW H) → Bool := fun _ ds => decide (uptoBulkAll ds ≤ 1048576)
def OpenSpec.upto (s : _root_.Go.ChangeSpec) : _root_.Go.OpenSpec := { _root_.Go.OpenSpec.ofChange s with cond := some uptoSmall }

/-- 'merinolaw07.AccountsDates', WHERE WHAT IT READS IS OF BULK AT MOST 1048576: true; the input reads as it did. -/
def accountsDatesUptoRow : OpenClaim := { program := "ythfnaegfjacjbab", sum := "8e7d1173117dee35843e59d05cb183d457fec97647c64b2c3a757659e506b3fa", func := "merino/merinolaw07.AccountsDates", spec := "accountsDates", inPlace := ["maps.clone"], unfollowed := true, recurses := true, named := ["math/bits.divideError", "math/bits.overflowError"], apart := false, narrowed := true }
def AccountsDatesUptoSaid : Prop := accountsDatesUptoRow.holds Try.pinned (OpenSpec.upto accountsDatesSpec)

/-- 'merinolaw07.AccountsWorking', WHERE WHAT IT READS IS OF BULK AT MOST 1048576: true; the input reads as it did. -/
def accountsWorkingUptoRow : OpenClaim := { program := "ythfnaegfjacjbab", sum := "8e7d1173117dee35843e59d05cb183d457fec97647c64b2c3a757659e506b3fa", func := "merino/merinolaw07.AccountsWorking", spec := "accountsWorking", inPlace := ["maps.clone"], unfollowed := true, recurses := true, named := ["math/bits.divideError", "math/bits.overflowError"], apart := false, narrowed := true }
def AccountsWorkingUptoSaid : Prop := accountsWorkingUptoRow.holds Try.pinned (OpenSpec.upto accountsWorkingSpec)

/-- 'merinolaw07.AccountsCharges', WHERE WHAT IT READS IS OF BULK AT MOST 1048576: true; the input reads as it did. -/
def accountsChargesUptoRow : OpenClaim := { program := "ythfnaegfjacjbab", sum := "8e7d1173117dee35843e59d05cb183d457fec97647c64b2c3a757659e506b3fa", func := "merino/merinolaw07.AccountsCharges", spec := "accountsCharges", inPlace := ["maps.clone"], unfollowed := true, recurses := true, named := ["math/bits.divideError", "math/bits.overflowError"], apart := false, narrowed := true }
def AccountsChargesUptoSaid : Prop := accountsChargesUptoRow.holds Try.pinned (OpenSpec.upto accountsChargesSpec)

/-- 'merinolaw07.AccountsVerifies', WHERE WHAT IT READS IS OF BULK AT MOST 1048576: true; the input reads as it did. -/
def accountsVerifiesUptoRow : OpenClaim := { program := "ythfnaegfjacjbab", sum := "8e7d1173117dee35843e59d05cb183d457fec97647c64b2c3a757659e506b3fa", func := "merino/merinolaw07.AccountsVerifies", spec := "accountsVerifies", inPlace := ["maps.clone"], unfollowed := true, recurses := true, named := ["math/bits.divideError", "math/bits.overflowError"], apart := false, narrowed := true }
def AccountsVerifiesUptoSaid : Prop := accountsVerifiesUptoRow.holds Try.pinned (OpenSpec.upto accountsVerifiesSpec)

/-- 'merinolaw07.AccountsNobody', WHERE WHAT IT READS IS OF BULK AT MOST 1048576: true; the input reads as it did. -/
def accountsNobodyUptoRow : OpenClaim := { program := "ythfnaegfjacjbab", sum := "8e7d1173117dee35843e59d05cb183d457fec97647c64b2c3a757659e506b3fa", func := "merino/merinolaw07.AccountsNobody", spec := "accountsNobody", inPlace := ["maps.clone"], unfollowed := true, recurses := true, named := ["math/bits.divideError", "math/bits.overflowError"], apart := false, narrowed := true }
def AccountsNobodyUptoSaid : Prop := accountsNobodyUptoRow.holds Try.pinned (OpenSpec.upto accountsNobodySpec)

/-- 'merinolaw07.AccountsCalendar', WHERE WHAT IT READS IS OF BULK AT MOST 1048576: true; the input reads as it did. -/
def accountsCalendarUptoRow : OpenClaim := { program := "ythfnaegfjacjbab", sum := "8e7d1173117dee35843e59d05cb183d457fec97647c64b2c3a757659e506b3fa", func := "merino/merinolaw07.AccountsCalendar", spec := "accountsCalendar", inPlace := ["maps.clone"], unfollowed := true, recurses := true, named := ["math/bits.divideError", "math/bits.overflowError"], apart := false, narrowed := true }
def AccountsCalendarUptoSaid : Prop := accountsCalendarUptoRow.holds Try.pinned (OpenSpec.upto accountsCalendarSpec)

/-- 'merinolaw07.AccountsPrompt', WHERE WHAT IT READS IS OF BULK AT MOST 1048576: true; the input reads as it did. -/
def accountsPromptUptoRow : OpenClaim := { program := "ythfnaegfjacjbab", sum := "8e7d1173117dee35843e59d05cb183d457fec97647c64b2c3a757659e506b3fa", func := "merino/merinolaw07.AccountsPrompt", spec := "accountsPrompt", inPlace := ["maps.clone"], unfollowed := true, recurses := true, named := ["math/bits.divideError", "math/bits.overflowError"], apart := false, narrowed := true }
def AccountsPromptUptoSaid : Prop := accountsPromptUptoRow.holds Try.pinned (OpenSpec.upto accountsPromptSpec)

/-- 'merinolaw07.AccountsGrows', WHERE WHAT IT READS IS OF BULK AT MOST 1048576: true; the input reads as it did. -/
def accountsGrowsUptoRow : OpenClaim := { program := "ythfnaegfjacjbab", sum := "8e7d1173117dee35843e59d05cb183d457fec97647c64b2c3a757659e506b3fa", func := "merino/merinolaw07.AccountsGrows", spec := "accountsGrows", inPlace := ["maps.clone"], unfollowed := true, recurses := true, named := ["math/bits.divideError", "math/bits.overflowError"], apart := false, narrowed := true }
def AccountsGrowsUptoSaid : Prop := accountsGrowsUptoRow.holds Try.pinned (OpenSpec.upto accountsGrowsSpec)

end Rows
end Go.Proofs.Ythfnaegfjacjbab
