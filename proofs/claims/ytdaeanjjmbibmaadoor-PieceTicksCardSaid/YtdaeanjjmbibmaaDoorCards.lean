/-
  DERIVED. GIVEN WITH THE SEED: THE CARDS: each row of YtdaeanjjmbibmaaDoorRows.lean that lists a variable, with what it lists TIED to the program's text (the seventh form; the later family's looks); each row that meets fmt, with fmt's text TOLD by the authors' own Lean function (tested against real Go, not proved from fmt's source: count such statements apart). THE CARD IS WHAT COUNTS. Prove the row's statement (the work); the ties are given (YtdaeanjjmbibmaaDoorTie.lean); close each card by the builder's one call (the guide's Derived/Test/ToyasCard.lean, 'card_holds'). Laid BY PROGRAM, IN A SANDBOX (cutbox-door.mjs). By AI agents, Wed Nov 11 2026. No macro, syntax, notation, axiom, sorry.
-/
import Derived.Test.YtdaeanjjmbibmaaDoorRows
import GoSem.ClaimSeven
namespace Go.Proofs.YtdaeanjjmbibmaaDoor
namespace Rows

/-- THE TIED CARD OF 'theorbolaw01.InstrumentRanges'. -/
def instrumentRangesCard : Claim7 := { stood := { row := instrumentRangesRow, standIns := [], harness := (true, "3d5bb5e8e4c9e4367c21665f431bc06f4ab8d0ca1f327189047850ea229f7fed"), looks := false }, kinds := [], alts := [], laidByText := true, laidKinds := [.data, .data, .data, .pinned], laidTests := true, laidLooks := .later }
def InstrumentRangesCardSaid : Prop := Claim7.holds Tryd.pinned (.plain (OpenSpec.ofChange instrumentRangesSpec)) instrumentRangesCard

/-- THE TIED CARD OF 'theorbolaw01.InstrumentStandards'. -/
def instrumentStandardsCard : Claim7 := { stood := { row := instrumentStandardsRow, standIns := [], harness := (true, "3d5bb5e8e4c9e4367c21665f431bc06f4ab8d0ca1f327189047850ea229f7fed"), looks := false }, kinds := [], alts := [], laidByText := true, laidKinds := [.data, .data, .data, .pinned], laidTests := true, laidLooks := .later }
def InstrumentStandardsCardSaid : Prop := Claim7.holds Tryd.pinned (.plain (OpenSpec.ofChange instrumentStandardsSpec)) instrumentStandardsCard

/-- THE TIED CARD OF 'theorbolaw01.InstrumentFormats'. -/
def instrumentFormatsCard : Claim7 := { stood := { row := instrumentFormatsRow, standIns := [], harness := (true, "3d5bb5e8e4c9e4367c21665f431bc06f4ab8d0ca1f327189047850ea229f7fed"), looks := false }, kinds := [], alts := [], laidByText := true, laidKinds := [.data, .data, .data, .data, .data, .data, .pinned], laidTests := true, laidLooks := .later }
def InstrumentFormatsCardSaid : Prop := Claim7.holds Tryd.pinned (.plain (OpenSpec.ofChange instrumentFormatsSpec)) instrumentFormatsCard

/-- THE TIED CARD OF 'theorbolaw01.InstrumentParses'. -/
def instrumentParsesCard : Claim7 := { stood := { row := instrumentParsesRow, standIns := [], harness := (true, "3d5bb5e8e4c9e4367c21665f431bc06f4ab8d0ca1f327189047850ea229f7fed"), looks := false }, kinds := [], alts := [], laidByText := true, laidKinds := [.data, .data, .data, .pinned], laidTests := true, laidLooks := .later }
def InstrumentParsesCardSaid : Prop := Claim7.holds Tryd.pinned (.plain (OpenSpec.ofChange instrumentParsesSpec)) instrumentParsesCard

/-- THE TIED CARD OF 'theorbolaw02.PieceTicks'. -/
def pieceTicksCard : Claim7 := { stood := { row := pieceTicksRow, standIns := [], harness := (true, "3d5bb5e8e4c9e4367c21665f431bc06f4ab8d0ca1f327189047850ea229f7fed"), looks := false }, kinds := [], alts := [], laidByText := true, laidKinds := [.data], laidTests := true, laidLooks := .later }
def PieceTicksCardSaid : Prop := Claim7.holds Tryd.pinned (.plain (OpenSpec.ofChange pieceTicksSpec)) pieceTicksCard

/-- THE TIED CARD OF 'theorbolaw02.PieceChecks'. -/
def pieceChecksCard : Claim7 := { stood := { row := pieceChecksRow, standIns := [], harness := (true, "3d5bb5e8e4c9e4367c21665f431bc06f4ab8d0ca1f327189047850ea229f7fed"), looks := false }, kinds := [], alts := [], laidByText := true, laidKinds := [.data], laidTests := true, laidLooks := .later }
def PieceChecksCardSaid : Prop := Claim7.holds Tryd.pinned (.plain (OpenSpec.ofChange pieceChecksSpec)) pieceChecksCard

/-- THE TIED CARD OF 'theorbolaw02.PieceTimes'. -/
def pieceTimesCard : Claim7 := { stood := { row := pieceTimesRow, standIns := [], harness := (true, "3d5bb5e8e4c9e4367c21665f431bc06f4ab8d0ca1f327189047850ea229f7fed"), looks := false }, kinds := [], alts := [], laidByText := true, laidKinds := [.data], laidTests := true, laidLooks := .later }
def PieceTimesCardSaid : Prop := Claim7.holds Tryd.pinned (.plain (OpenSpec.ofChange pieceTimesSpec)) pieceTimesCard

/-- THE SECOND FORM's CARD OF 'theorbolaw01.InstrumentRanges'. -/
def instrumentRangesUptoCard : Claim7 := { stood := { row := instrumentRangesUptoRow, standIns := [], harness := (true, "3d5bb5e8e4c9e4367c21665f431bc06f4ab8d0ca1f327189047850ea229f7fed"), looks := false }, kinds := [], alts := [], laidByText := true, laidKinds := [.data, .data, .data, .pinned], laidTests := true, laidLooks := .later }
def InstrumentRangesUptoCardSaid : Prop := Claim7.holds Tryd.pinned (.plain (OpenSpec.upto instrumentRangesSpec)) instrumentRangesUptoCard

/-- THE SECOND FORM's CARD OF 'theorbolaw01.InstrumentStandards'. -/
def instrumentStandardsUptoCard : Claim7 := { stood := { row := instrumentStandardsUptoRow, standIns := [], harness := (true, "3d5bb5e8e4c9e4367c21665f431bc06f4ab8d0ca1f327189047850ea229f7fed"), looks := false }, kinds := [], alts := [], laidByText := true, laidKinds := [.data, .data, .data, .pinned], laidTests := true, laidLooks := .later }
def InstrumentStandardsUptoCardSaid : Prop := Claim7.holds Tryd.pinned (.plain (OpenSpec.upto instrumentStandardsSpec)) instrumentStandardsUptoCard

/-- THE SECOND FORM's CARD OF 'theorbolaw01.InstrumentFormats'. -/
def instrumentFormatsUptoCard : Claim7 := { stood := { row := instrumentFormatsUptoRow, standIns := [], harness := (true, "3d5bb5e8e4c9e4367c21665f431bc06f4ab8d0ca1f327189047850ea229f7fed"), looks := false }, kinds := [], alts := [], laidByText := true, laidKinds := [.data, .data, .data, .data, .data, .data, .pinned], laidTests := true, laidLooks := .later }
def InstrumentFormatsUptoCardSaid : Prop := Claim7.holds Tryd.pinned (.plain (OpenSpec.upto instrumentFormatsSpec)) instrumentFormatsUptoCard

/-- THE SECOND FORM's CARD OF 'theorbolaw01.InstrumentParses'. -/
def instrumentParsesUptoCard : Claim7 := { stood := { row := instrumentParsesUptoRow, standIns := [], harness := (true, "3d5bb5e8e4c9e4367c21665f431bc06f4ab8d0ca1f327189047850ea229f7fed"), looks := false }, kinds := [], alts := [], laidByText := true, laidKinds := [.data, .data, .data, .pinned], laidTests := true, laidLooks := .later }
def InstrumentParsesUptoCardSaid : Prop := Claim7.holds Tryd.pinned (.plain (OpenSpec.upto instrumentParsesSpec)) instrumentParsesUptoCard

/-- THE SECOND FORM's CARD OF 'theorbolaw02.PieceTicks'. -/
def pieceTicksUptoCard : Claim7 := { stood := { row := pieceTicksUptoRow, standIns := [], harness := (true, "3d5bb5e8e4c9e4367c21665f431bc06f4ab8d0ca1f327189047850ea229f7fed"), looks := false }, kinds := [], alts := [], laidByText := true, laidKinds := [.data], laidTests := true, laidLooks := .later }
def PieceTicksUptoCardSaid : Prop := Claim7.holds Tryd.pinned (.plain (OpenSpec.upto pieceTicksSpec)) pieceTicksUptoCard

/-- THE SECOND FORM's CARD OF 'theorbolaw02.PieceChecks'. -/
def pieceChecksUptoCard : Claim7 := { stood := { row := pieceChecksUptoRow, standIns := [], harness := (true, "3d5bb5e8e4c9e4367c21665f431bc06f4ab8d0ca1f327189047850ea229f7fed"), looks := false }, kinds := [], alts := [], laidByText := true, laidKinds := [.data], laidTests := true, laidLooks := .later }
def PieceChecksUptoCardSaid : Prop := Claim7.holds Tryd.pinned (.plain (OpenSpec.upto pieceChecksSpec)) pieceChecksUptoCard

/-- THE SECOND FORM's CARD OF 'theorbolaw02.PieceTimes'. -/
def pieceTimesUptoCard : Claim7 := { stood := { row := pieceTimesUptoRow, standIns := [], harness := (true, "3d5bb5e8e4c9e4367c21665f431bc06f4ab8d0ca1f327189047850ea229f7fed"), looks := false }, kinds := [], alts := [], laidByText := true, laidKinds := [.data], laidTests := true, laidLooks := .later }
def PieceTimesUptoCardSaid : Prop := Claim7.holds Tryd.pinned (.plain (OpenSpec.upto pieceTimesSpec)) pieceTimesUptoCard
end Rows
end Go.Proofs.YtdaeanjjmbibmaaDoor
