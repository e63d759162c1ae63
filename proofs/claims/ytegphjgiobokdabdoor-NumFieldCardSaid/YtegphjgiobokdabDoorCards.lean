/-
  DERIVED. GIVEN WITH THE SEED: THE CARDS: each row of YtegphjgiobokdabDoorRows.lean that lists a variable, with what it lists TIED to the program's text (the seventh form; the later family's looks); each row that meets fmt, with fmt's text TOLD by the authors' own Lean function (tested against real Go, not proved from fmt's source: count such statements apart). THE CARD IS WHAT COUNTS. Prove the row's statement (the work); the ties are given (YtegphjgiobokdabDoorTie.lean); close each card by the builder's one call (the guide's Derived/Test/ToyasCard.lean, 'card_holds'). Laid BY PROGRAM, IN A SANDBOX (cutbox-door.mjs). By AI agents, Wed Nov 11 2026. No macro, syntax, notation, axiom, sorry.
-/
import Derived.Test.YtegphjgiobokdabDoorRows
import GoSem.ClaimSeven
namespace Go.Proofs.YtegphjgiobokdabDoor
namespace Rows

/-- THE TIED CARD OF 'merinolaw01.NumWhole'. -/
def numWholeCard : Claim7 := { stood := { row := numWholeRow, standIns := [], harness := (true, "76909ad1a9885edb2354747161c26c72a21788c00431826ddc63f8b8493b02b0"), looks := true }, kinds := [], alts := [], laidByText := true, laidKinds := [.data, .data, .data], laidTests := true, laidLooks := .later }
def NumWholeCardSaid : Prop := Claim7.holds Tryd.pinned (.plain (OpenSpec.ofChange numWholeSpec)) numWholeCard

/-- THE TIED CARD OF 'merinolaw01.NumHouse'. -/
def numHouseCard : Claim7 := { stood := { row := numHouseRow, standIns := [], harness := (true, "76909ad1a9885edb2354747161c26c72a21788c00431826ddc63f8b8493b02b0"), looks := true }, kinds := [], alts := [], laidByText := true, laidKinds := [.data, .data, .data], laidTests := true, laidLooks := .later }
def NumHouseCardSaid : Prop := Claim7.holds Tryd.pinned (.plain (OpenSpec.ofChange numHouseSpec)) numHouseCard

/-- THE TIED CARD OF 'merinolaw01.NumScaled'. -/
def numScaledCard : Claim7 := { stood := { row := numScaledRow, standIns := [], harness := (true, "76909ad1a9885edb2354747161c26c72a21788c00431826ddc63f8b8493b02b0"), looks := true }, kinds := [], alts := [], laidByText := true, laidKinds := [.data, .data, .data], laidTests := true, laidLooks := .later }
def NumScaledCardSaid : Prop := Claim7.holds Tryd.pinned (.plain (OpenSpec.ofChange numScaledSpec)) numScaledCard

/-- THE TIED CARD OF 'merinolaw01.NumBack'. -/
def numBackCard : Claim7 := { stood := { row := numBackRow, standIns := [], harness := (true, "76909ad1a9885edb2354747161c26c72a21788c00431826ddc63f8b8493b02b0"), looks := true }, kinds := [], alts := [], laidByText := true, laidKinds := [.data, .data, .data, .sentinel, .sentinel], laidTests := true, laidLooks := .later }
def NumBackCardSaid : Prop := Claim7.holds Tryd.pinned (.plain (OpenSpec.ofChange numBackSpec)) numBackCard

/-- THE TIED CARD OF 'merinolaw01.NumField'. -/
def numFieldCard : Claim7 := { stood := { row := numFieldRow, standIns := [], harness := (true, "76909ad1a9885edb2354747161c26c72a21788c00431826ddc63f8b8493b02b0"), looks := true }, kinds := [], alts := [], laidByText := true, laidKinds := [.data, .data, .data], laidTests := true, laidLooks := .later }
def NumFieldCardSaid : Prop := Claim7.holds Tryd.pinned (.plain (OpenSpec.ofChange numFieldSpec)) numFieldCard

/-- THE TIED CARD OF 'merinolaw01.NumModes'. -/
def numModesCard : Claim7 := { stood := { row := numModesRow, standIns := [], harness := (true, "76909ad1a9885edb2354747161c26c72a21788c00431826ddc63f8b8493b02b0"), looks := true }, kinds := [], alts := [], laidByText := true, laidKinds := [.data, .data, .data], laidTests := true, laidLooks := .later }
def NumModesCardSaid : Prop := Claim7.holds Tryd.pinned (.plain (OpenSpec.ofChange numModesSpec)) numModesCard

/-- THE SECOND FORM's CARD OF 'merinolaw01.NumWhole'. -/
def numWholeUptoCard : Claim7 := { stood := { row := numWholeUptoRow, standIns := [], harness := (true, "76909ad1a9885edb2354747161c26c72a21788c00431826ddc63f8b8493b02b0"), looks := true }, kinds := [], alts := [], laidByText := true, laidKinds := [.data, .data, .data], laidTests := true, laidLooks := .later }
def NumWholeUptoCardSaid : Prop := Claim7.holds Tryd.pinned (.plain (OpenSpec.upto numWholeSpec)) numWholeUptoCard

/-- THE SECOND FORM's CARD OF 'merinolaw01.NumHouse'. -/
def numHouseUptoCard : Claim7 := { stood := { row := numHouseUptoRow, standIns := [], harness := (true, "76909ad1a9885edb2354747161c26c72a21788c00431826ddc63f8b8493b02b0"), looks := true }, kinds := [], alts := [], laidByText := true, laidKinds := [.data, .data, .data], laidTests := true, laidLooks := .later }
def NumHouseUptoCardSaid : Prop := Claim7.holds Tryd.pinned (.plain (OpenSpec.upto numHouseSpec)) numHouseUptoCard

/-- THE SECOND FORM's CARD OF 'merinolaw01.NumScaled'. -/
def numScaledUptoCard : Claim7 := { stood := { row := numScaledUptoRow, standIns := [], harness := (true, "76909ad1a9885edb2354747161c26c72a21788c00431826ddc63f8b8493b02b0"), looks := true }, kinds := [], alts := [], laidByText := true, laidKinds := [.data, .data, .data], laidTests := true, laidLooks := .later }
def NumScaledUptoCardSaid : Prop := Claim7.holds Tryd.pinned (.plain (OpenSpec.upto numScaledSpec)) numScaledUptoCard

/-- THE SECOND FORM's CARD OF 'merinolaw01.NumBack'. -/
def numBackUptoCard : Claim7 := { stood := { row := numBackUptoRow, standIns := [], harness := (true, "76909ad1a9885edb2354747161c26c72a21788c00431826ddc63f8b8493b02b0"), looks := true }, kinds := [], alts := [], laidByText := true, laidKinds := [.data, .data, .data, .sentinel, .sentinel], laidTests := true, laidLooks := .later }
def NumBackUptoCardSaid : Prop := Claim7.holds Tryd.pinned (.plain (OpenSpec.upto numBackSpec)) numBackUptoCard

/-- THE SECOND FORM's CARD OF 'merinolaw01.NumField'. -/
def numFieldUptoCard : Claim7 := { stood := { row := numFieldUptoRow, standIns := [], harness := (true, "76909ad1a9885edb2354747161c26c72a21788c00431826ddc63f8b8493b02b0"), looks := true }, kinds := [], alts := [], laidByText := true, laidKinds := [.data, .data, .data], laidTests := true, laidLooks := .later }
def NumFieldUptoCardSaid : Prop := Claim7.holds Tryd.pinned (.plain (OpenSpec.upto numFieldSpec)) numFieldUptoCard

/-- THE SECOND FORM's CARD OF 'merinolaw01.NumModes'. -/
def numModesUptoCard : Claim7 := { stood := { row := numModesUptoRow, standIns := [], harness := (true, "76909ad1a9885edb2354747161c26c72a21788c00431826ddc63f8b8493b02b0"), looks := true }, kinds := [], alts := [], laidByText := true, laidKinds := [.data, .data, .data], laidTests := true, laidLooks := .later }
def NumModesUptoCardSaid : Prop := Claim7.holds Tryd.pinned (.plain (OpenSpec.upto numModesSpec)) numModesUptoCard
end Rows
end Go.Proofs.YtegphjgiobokdabDoor
