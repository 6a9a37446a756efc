/-
  DERIVED. GIVEN WITH THE SEED: THE CARDS: each row of YtmkmbpiaolmncaaDoorRows.lean that lists a variable, with what it lists TIED to the program's text (the seventh form; the later family's looks); each row that meets fmt, with fmt's text TOLD by the authors' own Lean function (tested against real Go, not proved from fmt's source: count such statements apart). THE CARD IS WHAT COUNTS. Prove the row's statement (the work); the ties are given (YtmkmbpiaolmncaaDoorTie.lean); close each card by the builder's one call (the guide's Derived/Test/ToyasCard.lean, 'card_holds'). Laid BY PROGRAM, IN A SANDBOX (cutbox-door.mjs). By AI agents, Wed Nov 11 2026. No macro, syntax, notation, axiom, sorry.
-/
import Derived.Test.YtmkmbpiaolmncaaDoorRows
import GoSem.ClaimSeven
namespace Go.Proofs.YtmkmbpiaolmncaaDoor
namespace Rows

/-- THE TIED CARD OF 'configlanglaw03.BytesetOf'. -/
def bytesetOfCard : Claim7 := { stood := { row := bytesetOfRow, standIns := [], harness := (true, "fffeb629193d6bc3a0a101873aa73f5740e46f48d05ace8c4eaa5d5e160e3116"), looks := false }, kinds := [], alts := [], laidByText := true, laidKinds := [.data], laidTests := true, laidLooks := .later }
def BytesetOfCardSaid : Prop := Claim7.holds Tryd.pinned (.plain (OpenSpec.ofChange bytesetOfSpec)) bytesetOfCard

/-- THE TIED CARD OF 'configlanglaw03.BytesetHas'. -/
def bytesetHasCard : Claim7 := { stood := { row := bytesetHasRow, standIns := [], harness := (true, "fffeb629193d6bc3a0a101873aa73f5740e46f48d05ace8c4eaa5d5e160e3116"), looks := false }, kinds := [], alts := [], laidByText := true, laidKinds := [.data], laidTests := true, laidLooks := .later }
def BytesetHasCardSaid : Prop := Claim7.holds Tryd.pinned (.plain (OpenSpec.ofChange bytesetHasSpec)) bytesetHasCard

/-- THE TIED CARD OF 'configlanglaw03.BytesetJoins'. -/
def bytesetJoinsCard : Claim7 := { stood := { row := bytesetJoinsRow, standIns := [], harness := (true, "fffeb629193d6bc3a0a101873aa73f5740e46f48d05ace8c4eaa5d5e160e3116"), looks := false }, kinds := [], alts := [], laidByText := true, laidKinds := [.data], laidTests := true, laidLooks := .later }
def BytesetJoinsCardSaid : Prop := Claim7.holds Tryd.pinned (.plain (OpenSpec.ofChange bytesetJoinsSpec)) bytesetJoinsCard

/-- THE TIED CARD OF 'configlanglaw03.BytesetCounts'. -/
def bytesetCountsCard : Claim7 := { stood := { row := bytesetCountsRow, standIns := [], harness := (true, "fffeb629193d6bc3a0a101873aa73f5740e46f48d05ace8c4eaa5d5e160e3116"), looks := false }, kinds := [], alts := [], laidByText := true, laidKinds := [.data], laidTests := true, laidLooks := .later }
def BytesetCountsCardSaid : Prop := Claim7.holds Tryd.pinned (.plain (OpenSpec.ofChange bytesetCountsSpec)) bytesetCountsCard

/-- THE TIED CARD OF 'configlanglaw03.BytesetRanges'. -/
def bytesetRangesCard : Claim7 := { stood := { row := bytesetRangesRow, standIns := [], harness := (true, "fffeb629193d6bc3a0a101873aa73f5740e46f48d05ace8c4eaa5d5e160e3116"), looks := false }, kinds := [], alts := [], laidByText := true, laidKinds := [.data], laidTests := true, laidLooks := .later }
def BytesetRangesCardSaid : Prop := Claim7.holds Tryd.pinned (.plain (OpenSpec.ofChange bytesetRangesSpec)) bytesetRangesCard

/-- THE TIED CARD OF 'configlanglaw03.BytesetParts'. -/
def bytesetPartsCard : Claim7 := { stood := { row := bytesetPartsRow, standIns := [], harness := (true, "fffeb629193d6bc3a0a101873aa73f5740e46f48d05ace8c4eaa5d5e160e3116"), looks := false }, kinds := [], alts := [], laidByText := true, laidKinds := [.data], laidTests := true, laidLooks := .later }
def BytesetPartsCardSaid : Prop := Claim7.holds Tryd.pinned (.plain (OpenSpec.ofChange bytesetPartsSpec)) bytesetPartsCard

/-- THE TIED CARD OF 'configlanglaw03.BytesetAlgebra'. -/
def bytesetAlgebraCard : Claim7 := { stood := { row := bytesetAlgebraRow, standIns := [], harness := (true, "fffeb629193d6bc3a0a101873aa73f5740e46f48d05ace8c4eaa5d5e160e3116"), looks := false }, kinds := [], alts := [], laidByText := true, laidKinds := [.data], laidTests := true, laidLooks := .later }
def BytesetAlgebraCardSaid : Prop := Claim7.holds Tryd.pinned (.plain (OpenSpec.ofChange bytesetAlgebraSpec)) bytesetAlgebraCard

/-- THE TIED CARD OF 'configlanglaw03.BytesetUnites'. -/
def bytesetUnitesCard : Claim7 := { stood := { row := bytesetUnitesRow, standIns := [], harness := (true, "fffeb629193d6bc3a0a101873aa73f5740e46f48d05ace8c4eaa5d5e160e3116"), looks := false }, kinds := [], alts := [], laidByText := true, laidKinds := [.data], laidTests := true, laidLooks := .later }
def BytesetUnitesCardSaid : Prop := Claim7.holds Tryd.pinned (.plain (OpenSpec.ofChange bytesetUnitesSpec)) bytesetUnitesCard

/-- THE TIED CARD OF 'configlanglaw03.BytesetSplits'. -/
def bytesetSplitsCard : Claim7 := { stood := { row := bytesetSplitsRow, standIns := [], harness := (true, "fffeb629193d6bc3a0a101873aa73f5740e46f48d05ace8c4eaa5d5e160e3116"), looks := false }, kinds := [], alts := [], laidByText := true, laidKinds := [.data], laidTests := true, laidLooks := .later }
def BytesetSplitsCardSaid : Prop := Claim7.holds Tryd.pinned (.plain (OpenSpec.ofChange bytesetSplitsSpec)) bytesetSplitsCard

/-- THE SECOND FORM's CARD OF 'configlanglaw03.BytesetOf'. -/
def bytesetOfUptoCard : Claim7 := { stood := { row := bytesetOfUptoRow, standIns := [], harness := (true, "fffeb629193d6bc3a0a101873aa73f5740e46f48d05ace8c4eaa5d5e160e3116"), looks := false }, kinds := [], alts := [], laidByText := true, laidKinds := [.data], laidTests := true, laidLooks := .later }
def BytesetOfUptoCardSaid : Prop := Claim7.holds Tryd.pinned (.plain (OpenSpec.upto bytesetOfSpec)) bytesetOfUptoCard

/-- THE SECOND FORM's CARD OF 'configlanglaw03.BytesetHas'. -/
def bytesetHasUptoCard : Claim7 := { stood := { row := bytesetHasUptoRow, standIns := [], harness := (true, "fffeb629193d6bc3a0a101873aa73f5740e46f48d05ace8c4eaa5d5e160e3116"), looks := false }, kinds := [], alts := [], laidByText := true, laidKinds := [.data], laidTests := true, laidLooks := .later }
def BytesetHasUptoCardSaid : Prop := Claim7.holds Tryd.pinned (.plain (OpenSpec.upto bytesetHasSpec)) bytesetHasUptoCard

/-- THE SECOND FORM's CARD OF 'configlanglaw03.BytesetJoins'. -/
def bytesetJoinsUptoCard : Claim7 := { stood := { row := bytesetJoinsUptoRow, standIns := [], harness := (true, "fffeb629193d6bc3a0a101873aa73f5740e46f48d05ace8c4eaa5d5e160e3116"), looks := false }, kinds := [], alts := [], laidByText := true, laidKinds := [.data], laidTests := true, laidLooks := .later }
def BytesetJoinsUptoCardSaid : Prop := Claim7.holds Tryd.pinned (.plain (OpenSpec.upto bytesetJoinsSpec)) bytesetJoinsUptoCard

/-- THE SECOND FORM's CARD OF 'configlanglaw03.BytesetCounts'. -/
def bytesetCountsUptoCard : Claim7 := { stood := { row := bytesetCountsUptoRow, standIns := [], harness := (true, "fffeb629193d6bc3a0a101873aa73f5740e46f48d05ace8c4eaa5d5e160e3116"), looks := false }, kinds := [], alts := [], laidByText := true, laidKinds := [.data], laidTests := true, laidLooks := .later }
def BytesetCountsUptoCardSaid : Prop := Claim7.holds Tryd.pinned (.plain (OpenSpec.upto bytesetCountsSpec)) bytesetCountsUptoCard

/-- THE SECOND FORM's CARD OF 'configlanglaw03.BytesetRanges'. -/
def bytesetRangesUptoCard : Claim7 := { stood := { row := bytesetRangesUptoRow, standIns := [], harness := (true, "fffeb629193d6bc3a0a101873aa73f5740e46f48d05ace8c4eaa5d5e160e3116"), looks := false }, kinds := [], alts := [], laidByText := true, laidKinds := [.data], laidTests := true, laidLooks := .later }
def BytesetRangesUptoCardSaid : Prop := Claim7.holds Tryd.pinned (.plain (OpenSpec.upto bytesetRangesSpec)) bytesetRangesUptoCard

/-- THE SECOND FORM's CARD OF 'configlanglaw03.BytesetParts'. -/
def bytesetPartsUptoCard : Claim7 := { stood := { row := bytesetPartsUptoRow, standIns := [], harness := (true, "fffeb629193d6bc3a0a101873aa73f5740e46f48d05ace8c4eaa5d5e160e3116"), looks := false }, kinds := [], alts := [], laidByText := true, laidKinds := [.data], laidTests := true, laidLooks := .later }
def BytesetPartsUptoCardSaid : Prop := Claim7.holds Tryd.pinned (.plain (OpenSpec.upto bytesetPartsSpec)) bytesetPartsUptoCard

/-- THE SECOND FORM's CARD OF 'configlanglaw03.BytesetAlgebra'. -/
def bytesetAlgebraUptoCard : Claim7 := { stood := { row := bytesetAlgebraUptoRow, standIns := [], harness := (true, "fffeb629193d6bc3a0a101873aa73f5740e46f48d05ace8c4eaa5d5e160e3116"), looks := false }, kinds := [], alts := [], laidByText := true, laidKinds := [.data], laidTests := true, laidLooks := .later }
def BytesetAlgebraUptoCardSaid : Prop := Claim7.holds Tryd.pinned (.plain (OpenSpec.upto bytesetAlgebraSpec)) bytesetAlgebraUptoCard

/-- THE SECOND FORM's CARD OF 'configlanglaw03.BytesetUnites'. -/
def bytesetUnitesUptoCard : Claim7 := { stood := { row := bytesetUnitesUptoRow, standIns := [], harness := (true, "fffeb629193d6bc3a0a101873aa73f5740e46f48d05ace8c4eaa5d5e160e3116"), looks := false }, kinds := [], alts := [], laidByText := true, laidKinds := [.data], laidTests := true, laidLooks := .later }
def BytesetUnitesUptoCardSaid : Prop := Claim7.holds Tryd.pinned (.plain (OpenSpec.upto bytesetUnitesSpec)) bytesetUnitesUptoCard

/-- THE SECOND FORM's CARD OF 'configlanglaw03.BytesetSplits'. -/
def bytesetSplitsUptoCard : Claim7 := { stood := { row := bytesetSplitsUptoRow, standIns := [], harness := (true, "fffeb629193d6bc3a0a101873aa73f5740e46f48d05ace8c4eaa5d5e160e3116"), looks := false }, kinds := [], alts := [], laidByText := true, laidKinds := [.data], laidTests := true, laidLooks := .later }
def BytesetSplitsUptoCardSaid : Prop := Claim7.holds Tryd.pinned (.plain (OpenSpec.upto bytesetSplitsSpec)) bytesetSplitsUptoCard
end Rows
end Go.Proofs.YtmkmbpiaolmncaaDoor
