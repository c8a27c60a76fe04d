/-
  DERIVED. GIVEN WITH THE SEED: THE CARDS: each row of YtamfbglhachffaaDoorRows.lean that lists a variable, with what it lists TIED to the program's text (the seventh form; the later family's looks); each row that meets fmt, with fmt's text TOLD by the authors' own Lean function (tested against real Go, not proved from fmt's source: count such statements apart). THE CARD IS WHAT COUNTS. Prove the row's statement (the work); the ties are given (YtamfbglhachffaaDoorTie.lean); close each card by the builder's one call (the guide's Derived/Test/ToyasCard.lean, 'card_holds'). Laid BY PROGRAM, IN A SANDBOX (cutbox-door.mjs). By AI agents, Wed Nov 11 2026. No macro, syntax, notation, axiom, sorry.
-/
import Derived.Test.YtamfbglhachffaaDoorRows
import GoSem.ClaimSeven
namespace Go.Proofs.YtamfbglhachffaaDoor
namespace Rows

/-- THE TIED CARD OF 'theorbolaw02.PieceSigns'. -/
def pieceSignsCard : Claim7 := { stood := { row := pieceSignsRow, standIns := [], harness := (true, "88e8af4b1891eadf7797d18c68660729ed4e9babf3c3774d92d1c0044c4785c6"), looks := false }, kinds := [], alts := [], laidByText := true, laidKinds := [.data], laidTests := true, laidLooks := .later }
def PieceSignsCardSaid : Prop := Claim7.holds Tryd.pinned (.plain (OpenSpec.ofChange pieceSignsSpec)) pieceSignsCard

/-- THE TIED CARD OF 'theorbolaw02.PieceSignsAdd'. -/
def pieceSignsAddCard : Claim7 := { stood := { row := pieceSignsAddRow, standIns := [], harness := (true, "88e8af4b1891eadf7797d18c68660729ed4e9babf3c3774d92d1c0044c4785c6"), looks := false }, kinds := [], alts := [], laidByText := true, laidKinds := [.data], laidTests := true, laidLooks := .later }
def PieceSignsAddCardSaid : Prop := Claim7.holds Tryd.pinned (.plain (OpenSpec.ofChange pieceSignsAddSpec)) pieceSignsAddCard

/-- THE TIED CARD OF 'theorbolaw02.PieceChecks'. -/
def pieceChecksCard : Claim7 := { stood := { row := pieceChecksRow, standIns := [], harness := (true, "88e8af4b1891eadf7797d18c68660729ed4e9babf3c3774d92d1c0044c4785c6"), looks := false }, kinds := [], alts := [], laidByText := true, laidKinds := [.data], laidTests := true, laidLooks := .later }
def PieceChecksCardSaid : Prop := Claim7.holds Tryd.pinned (.plain (OpenSpec.ofChange pieceChecksSpec)) pieceChecksCard

/-- THE TIED CARD OF 'theorbolaw02.PieceTimes'. -/
def pieceTimesCard : Claim7 := { stood := { row := pieceTimesRow, standIns := [], harness := (true, "88e8af4b1891eadf7797d18c68660729ed4e9babf3c3774d92d1c0044c4785c6"), looks := false }, kinds := [], alts := [], laidByText := true, laidKinds := [.data], laidTests := true, laidLooks := .later }
def PieceTimesCardSaid : Prop := Claim7.holds Tryd.pinned (.plain (OpenSpec.ofChange pieceTimesSpec)) pieceTimesCard

/-- THE TIED CARD OF 'theorbolaw02.PieceAugments'. -/
def pieceAugmentsCard : Claim7 := { stood := { row := pieceAugmentsRow, standIns := [], harness := (true, "88e8af4b1891eadf7797d18c68660729ed4e9babf3c3774d92d1c0044c4785c6"), looks := false }, kinds := [], alts := [], laidByText := true, laidKinds := [.data], laidTests := true, laidLooks := .later }
def PieceAugmentsCardSaid : Prop := Claim7.holds Tryd.pinned (.plain (OpenSpec.ofChange pieceAugmentsSpec)) pieceAugmentsCard

/-- THE TIED CARD OF 'theorbolaw02.PieceCompares'. -/
def pieceComparesCard : Claim7 := { stood := { row := pieceComparesRow, standIns := [], harness := (true, "88e8af4b1891eadf7797d18c68660729ed4e9babf3c3774d92d1c0044c4785c6"), looks := false }, kinds := [], alts := [], laidByText := true, laidKinds := [.data], laidTests := true, laidLooks := .later }
def PieceComparesCardSaid : Prop := Claim7.holds Tryd.pinned (.plain (OpenSpec.ofChange pieceComparesSpec)) pieceComparesCard

/-- THE SECOND FORM's CARD OF 'theorbolaw02.PieceSigns'. -/
def pieceSignsUptoCard : Claim7 := { stood := { row := pieceSignsUptoRow, standIns := [], harness := (true, "88e8af4b1891eadf7797d18c68660729ed4e9babf3c3774d92d1c0044c4785c6"), looks := false }, kinds := [], alts := [], laidByText := true, laidKinds := [.data], laidTests := true, laidLooks := .later }
def PieceSignsUptoCardSaid : Prop := Claim7.holds Tryd.pinned (.plain (OpenSpec.upto pieceSignsSpec)) pieceSignsUptoCard

/-- THE SECOND FORM's CARD OF 'theorbolaw02.PieceSignsAdd'. -/
def pieceSignsAddUptoCard : Claim7 := { stood := { row := pieceSignsAddUptoRow, standIns := [], harness := (true, "88e8af4b1891eadf7797d18c68660729ed4e9babf3c3774d92d1c0044c4785c6"), looks := false }, kinds := [], alts := [], laidByText := true, laidKinds := [.data], laidTests := true, laidLooks := .later }
def PieceSignsAddUptoCardSaid : Prop := Claim7.holds Tryd.pinned (.plain (OpenSpec.upto pieceSignsAddSpec)) pieceSignsAddUptoCard

/-- THE SECOND FORM's CARD OF 'theorbolaw02.PieceChecks'. -/
def pieceChecksUptoCard : Claim7 := { stood := { row := pieceChecksUptoRow, standIns := [], harness := (true, "88e8af4b1891eadf7797d18c68660729ed4e9babf3c3774d92d1c0044c4785c6"), looks := false }, kinds := [], alts := [], laidByText := true, laidKinds := [.data], laidTests := true, laidLooks := .later }
def PieceChecksUptoCardSaid : Prop := Claim7.holds Tryd.pinned (.plain (OpenSpec.upto pieceChecksSpec)) pieceChecksUptoCard

/-- THE SECOND FORM's CARD OF 'theorbolaw02.PieceTimes'. -/
def pieceTimesUptoCard : Claim7 := { stood := { row := pieceTimesUptoRow, standIns := [], harness := (true, "88e8af4b1891eadf7797d18c68660729ed4e9babf3c3774d92d1c0044c4785c6"), looks := false }, kinds := [], alts := [], laidByText := true, laidKinds := [.data], laidTests := true, laidLooks := .later }
def PieceTimesUptoCardSaid : Prop := Claim7.holds Tryd.pinned (.plain (OpenSpec.upto pieceTimesSpec)) pieceTimesUptoCard

/-- THE SECOND FORM's CARD OF 'theorbolaw02.PieceAugments'. -/
def pieceAugmentsUptoCard : Claim7 := { stood := { row := pieceAugmentsUptoRow, standIns := [], harness := (true, "88e8af4b1891eadf7797d18c68660729ed4e9babf3c3774d92d1c0044c4785c6"), looks := false }, kinds := [], alts := [], laidByText := true, laidKinds := [.data], laidTests := true, laidLooks := .later }
def PieceAugmentsUptoCardSaid : Prop := Claim7.holds Tryd.pinned (.plain (OpenSpec.upto pieceAugmentsSpec)) pieceAugmentsUptoCard

/-- THE SECOND FORM's CARD OF 'theorbolaw02.PieceCompares'. -/
def pieceComparesUptoCard : Claim7 := { stood := { row := pieceComparesUptoRow, standIns := [], harness := (true, "88e8af4b1891eadf7797d18c68660729ed4e9babf3c3774d92d1c0044c4785c6"), looks := false }, kinds := [], alts := [], laidByText := true, laidKinds := [.data], laidTests := true, laidLooks := .later }
def PieceComparesUptoCardSaid : Prop := Claim7.holds Tryd.pinned (.plain (OpenSpec.upto pieceComparesSpec)) pieceComparesUptoCard
end Rows
end Go.Proofs.YtamfbglhachffaaDoor
