/-
  DERIVED. GIVEN WITH THE SEED: THE CARDS: each row of YtblaakjldpcjlaaDoorRows.lean that lists a variable, with what it lists TIED to the program's text (the seventh form; the later family's looks); each row that meets fmt, with fmt's text TOLD by the authors' own Lean function (tested against real Go, not proved from fmt's source: count such statements apart). THE CARD IS WHAT COUNTS. Prove the row's statement (the work); the ties are given (YtblaakjldpcjlaaDoorTie.lean); close each card by the builder's one call (the guide's Derived/Test/ToyasCard.lean, 'card_holds'). Laid BY PROGRAM, IN A SANDBOX (cutbox-door.mjs). By AI agents, Wed Nov 11 2026. No macro, syntax, notation, axiom, sorry.
-/
import Derived.Test.YtblaakjldpcjlaaDoorRows
import GoSem.ClaimSeven
namespace Go.Proofs.YtblaakjldpcjlaaDoor
namespace Rows

/-- THE TIED CARD OF 'merinolaw01.NumNearest'. -/
def numNearestCard : Claim7 := { stood := { row := numNearestRow, standIns := [], harness := (true, "852c4509d318776bdaacc552d2a407127b395cdad9056722d5aeafa199e3314a"), looks := false }, kinds := [], alts := [], laidByText := true, laidKinds := [.data, .data, .data], laidTests := true, laidLooks := .later }
def NumNearestCardSaid : Prop := Claim7.holds Tryd.pinned (.plain (OpenSpec.ofChange numNearestSpec)) numNearestCard

/-- THE TIED CARD OF 'merinolaw01.NumBest'. -/
def numBestCard : Claim7 := { stood := { row := numBestRow, standIns := [], harness := (true, "852c4509d318776bdaacc552d2a407127b395cdad9056722d5aeafa199e3314a"), looks := false }, kinds := [], alts := [], laidByText := true, laidKinds := [.data, .data, .data], laidTests := true, laidLooks := .later }
def NumBestCardSaid : Prop := Claim7.holds Tryd.pinned (.plain (OpenSpec.ofChange numBestSpec)) numBestCard

/-- THE TIED CARD OF 'merinolaw01.NumHouse'. -/
def numHouseCard : Claim7 := { stood := { row := numHouseRow, standIns := [], harness := (true, "852c4509d318776bdaacc552d2a407127b395cdad9056722d5aeafa199e3314a"), looks := false }, kinds := [], alts := [], laidByText := true, laidKinds := [.data, .data, .data], laidTests := true, laidLooks := .later }
def NumHouseCardSaid : Prop := Claim7.holds Tryd.pinned (.plain (OpenSpec.ofChange numHouseSpec)) numHouseCard

/-- THE TIED CARD OF 'merinolaw01.NumFair'. -/
def numFairCard : Claim7 := { stood := { row := numFairRow, standIns := [], harness := (true, "852c4509d318776bdaacc552d2a407127b395cdad9056722d5aeafa199e3314a"), looks := false }, kinds := [], alts := [], laidByText := true, laidKinds := [.data, .data, .data], laidTests := true, laidLooks := .later }
def NumFairCardSaid : Prop := Claim7.holds Tryd.pinned (.plain (OpenSpec.ofChange numFairSpec)) numFairCard

/-- THE TIED CARD OF 'merinolaw01.NumMeans'. -/
def numMeansCard : Claim7 := { stood := { row := numMeansRow, standIns := [], harness := (true, "852c4509d318776bdaacc552d2a407127b395cdad9056722d5aeafa199e3314a"), looks := false }, kinds := [], alts := [], laidByText := true, laidKinds := [.data, .data, .data], laidTests := true, laidLooks := .later }
def NumMeansCardSaid : Prop := Claim7.holds Tryd.pinned (.plain (OpenSpec.ofChange numMeansSpec)) numMeansCard

/-- THE TIED CARD OF 'merinolaw01.NumPaths'. -/
def numPathsCard : Claim7 := { stood := { row := numPathsRow, standIns := [], harness := (true, "852c4509d318776bdaacc552d2a407127b395cdad9056722d5aeafa199e3314a"), looks := false }, kinds := [], alts := [], laidByText := true, laidKinds := [.data, .data, .data], laidTests := true, laidLooks := .later }
def NumPathsCardSaid : Prop := Claim7.holds Tryd.pinned (.plain (OpenSpec.ofChange numPathsSpec)) numPathsCard

/-- THE TIED CARD OF 'merinolaw01.NumWhole'. -/
def numWholeCard : Claim7 := { stood := { row := numWholeRow, standIns := [], harness := (true, "852c4509d318776bdaacc552d2a407127b395cdad9056722d5aeafa199e3314a"), looks := false }, kinds := [], alts := [], laidByText := true, laidKinds := [.data, .data, .data], laidTests := true, laidLooks := .later }
def NumWholeCardSaid : Prop := Claim7.holds Tryd.pinned (.plain (OpenSpec.ofChange numWholeSpec)) numWholeCard

/-- THE TIED CARD OF 'merinolaw01.NumDivides'. -/
def numDividesCard : Claim7 := { stood := { row := numDividesRow, standIns := [], harness := (true, "852c4509d318776bdaacc552d2a407127b395cdad9056722d5aeafa199e3314a"), looks := false }, kinds := [], alts := [], laidByText := true, laidKinds := [.data, .data, .data], laidTests := true, laidLooks := .later }
def NumDividesCardSaid : Prop := Claim7.holds Tryd.pinned (.plain (OpenSpec.ofChange numDividesSpec)) numDividesCard

/-- THE TIED CARD OF 'merinolaw01.NumScaled'. -/
def numScaledCard : Claim7 := { stood := { row := numScaledRow, standIns := [], harness := (true, "852c4509d318776bdaacc552d2a407127b395cdad9056722d5aeafa199e3314a"), looks := false }, kinds := [], alts := [], laidByText := true, laidKinds := [.data, .data, .data], laidTests := true, laidLooks := .later }
def NumScaledCardSaid : Prop := Claim7.holds Tryd.pinned (.plain (OpenSpec.ofChange numScaledSpec)) numScaledCard

/-- THE SECOND FORM's CARD OF 'merinolaw01.NumNearest'. -/
def numNearestUptoCard : Claim7 := { stood := { row := numNearestUptoRow, standIns := [], harness := (true, "852c4509d318776bdaacc552d2a407127b395cdad9056722d5aeafa199e3314a"), looks := false }, kinds := [], alts := [], laidByText := true, laidKinds := [.data, .data, .data], laidTests := true, laidLooks := .later }
def NumNearestUptoCardSaid : Prop := Claim7.holds Tryd.pinned (.plain (OpenSpec.upto numNearestSpec)) numNearestUptoCard

/-- THE SECOND FORM's CARD OF 'merinolaw01.NumBest'. -/
def numBestUptoCard : Claim7 := { stood := { row := numBestUptoRow, standIns := [], harness := (true, "852c4509d318776bdaacc552d2a407127b395cdad9056722d5aeafa199e3314a"), looks := false }, kinds := [], alts := [], laidByText := true, laidKinds := [.data, .data, .data], laidTests := true, laidLooks := .later }
def NumBestUptoCardSaid : Prop := Claim7.holds Tryd.pinned (.plain (OpenSpec.upto numBestSpec)) numBestUptoCard

/-- THE SECOND FORM's CARD OF 'merinolaw01.NumHouse'. -/
def numHouseUptoCard : Claim7 := { stood := { row := numHouseUptoRow, standIns := [], harness := (true, "852c4509d318776bdaacc552d2a407127b395cdad9056722d5aeafa199e3314a"), looks := false }, kinds := [], alts := [], laidByText := true, laidKinds := [.data, .data, .data], laidTests := true, laidLooks := .later }
def NumHouseUptoCardSaid : Prop := Claim7.holds Tryd.pinned (.plain (OpenSpec.upto numHouseSpec)) numHouseUptoCard

/-- THE SECOND FORM's CARD OF 'merinolaw01.NumFair'. -/
def numFairUptoCard : Claim7 := { stood := { row := numFairUptoRow, standIns := [], harness := (true, "852c4509d318776bdaacc552d2a407127b395cdad9056722d5aeafa199e3314a"), looks := false }, kinds := [], alts := [], laidByText := true, laidKinds := [.data, .data, .data], laidTests := true, laidLooks := .later }
def NumFairUptoCardSaid : Prop := Claim7.holds Tryd.pinned (.plain (OpenSpec.upto numFairSpec)) numFairUptoCard

/-- THE SECOND FORM's CARD OF 'merinolaw01.NumMeans'. -/
def numMeansUptoCard : Claim7 := { stood := { row := numMeansUptoRow, standIns := [], harness := (true, "852c4509d318776bdaacc552d2a407127b395cdad9056722d5aeafa199e3314a"), looks := false }, kinds := [], alts := [], laidByText := true, laidKinds := [.data, .data, .data], laidTests := true, laidLooks := .later }
def NumMeansUptoCardSaid : Prop := Claim7.holds Tryd.pinned (.plain (OpenSpec.upto numMeansSpec)) numMeansUptoCard

/-- THE SECOND FORM's CARD OF 'merinolaw01.NumPaths'. -/
def numPathsUptoCard : Claim7 := { stood := { row := numPathsUptoRow, standIns := [], harness := (true, "852c4509d318776bdaacc552d2a407127b395cdad9056722d5aeafa199e3314a"), looks := false }, kinds := [], alts := [], laidByText := true, laidKinds := [.data, .data, .data], laidTests := true, laidLooks := .later }
def NumPathsUptoCardSaid : Prop := Claim7.holds Tryd.pinned (.plain (OpenSpec.upto numPathsSpec)) numPathsUptoCard

/-- THE SECOND FORM's CARD OF 'merinolaw01.NumWhole'. -/
def numWholeUptoCard : Claim7 := { stood := { row := numWholeUptoRow, standIns := [], harness := (true, "852c4509d318776bdaacc552d2a407127b395cdad9056722d5aeafa199e3314a"), looks := false }, kinds := [], alts := [], laidByText := true, laidKinds := [.data, .data, .data], laidTests := true, laidLooks := .later }
def NumWholeUptoCardSaid : Prop := Claim7.holds Tryd.pinned (.plain (OpenSpec.upto numWholeSpec)) numWholeUptoCard

/-- THE SECOND FORM's CARD OF 'merinolaw01.NumDivides'. -/
def numDividesUptoCard : Claim7 := { stood := { row := numDividesUptoRow, standIns := [], harness := (true, "852c4509d318776bdaacc552d2a407127b395cdad9056722d5aeafa199e3314a"), looks := false }, kinds := [], alts := [], laidByText := true, laidKinds := [.data, .data, .data], laidTests := true, laidLooks := .later }
def NumDividesUptoCardSaid : Prop := Claim7.holds Tryd.pinned (.plain (OpenSpec.upto numDividesSpec)) numDividesUptoCard

/-- THE SECOND FORM's CARD OF 'merinolaw01.NumScaled'. -/
def numScaledUptoCard : Claim7 := { stood := { row := numScaledUptoRow, standIns := [], harness := (true, "852c4509d318776bdaacc552d2a407127b395cdad9056722d5aeafa199e3314a"), looks := false }, kinds := [], alts := [], laidByText := true, laidKinds := [.data, .data, .data], laidTests := true, laidLooks := .later }
def NumScaledUptoCardSaid : Prop := Claim7.holds Tryd.pinned (.plain (OpenSpec.upto numScaledSpec)) numScaledUptoCard
end Rows
end Go.Proofs.YtblaakjldpcjlaaDoor
