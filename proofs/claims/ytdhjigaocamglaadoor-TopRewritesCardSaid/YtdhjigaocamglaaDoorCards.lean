/-
  DERIVED. GIVEN WITH THE SEED: THE CARDS: each row of YtdhjigaocamglaaDoorRows.lean that lists a variable, with what it lists TIED to the program's text (the seventh form; the later family's looks); each row that meets fmt, with fmt's text TOLD by the authors' own Lean function (tested against real Go, not proved from fmt's source: count such statements apart). THE CARD IS WHAT COUNTS. Prove the row's statement (the work); the ties are given (YtdhjigaocamglaaDoorTie.lean); close each card by the builder's one call (the guide's Derived/Test/ToyasCard.lean, 'card_holds'). Laid BY PROGRAM, IN A SANDBOX (cutbox-door.mjs). By AI agents, Wed Nov 11 2026. No macro, syntax, notation, axiom, sorry.
-/
import Derived.Test.YtdhjigaocamglaaDoorRows
import GoSem.ClaimSeven
namespace Go.Proofs.YtdhjigaocamglaaDoor
namespace Rows

/-- THE TIED CARD OF 'theorbolaw02.PieceRewrites'. -/
def pieceRewritesCard : Claim7 := { stood := { row := pieceRewritesRow, standIns := [], harness := (true, "ab8095f4e5a70f78cdc4e7cc63288777427a3453bb319a46f0f905abcb47a6fa"), looks := false }, kinds := [], alts := [], laidByText := true, laidKinds := [.data], laidTests := true, laidLooks := .later }
def PieceRewritesCardSaid : Prop := Claim7.holds Tryd.pinned (.plain (OpenSpec.ofChange pieceRewritesSpec)) pieceRewritesCard

/-- THE TIED CARD OF 'theorbolaw02.PieceBreaks'. -/
def pieceBreaksCard : Claim7 := { stood := { row := pieceBreaksRow, standIns := [], harness := (true, "ab8095f4e5a70f78cdc4e7cc63288777427a3453bb319a46f0f905abcb47a6fa"), looks := false }, kinds := [], alts := [], laidByText := true, laidKinds := [.data], laidTests := true, laidLooks := .later }
def PieceBreaksCardSaid : Prop := Claim7.holds Tryd.pinned (.plain (OpenSpec.ofChange pieceBreaksSpec)) pieceBreaksCard

/-- THE TIED CARD OF 'theorbolaw02.PieceBars'. -/
def pieceBarsCard : Claim7 := { stood := { row := pieceBarsRow, standIns := [], harness := (true, "ab8095f4e5a70f78cdc4e7cc63288777427a3453bb319a46f0f905abcb47a6fa"), looks := false }, kinds := [], alts := [], laidByText := true, laidKinds := [.data], laidTests := true, laidLooks := .later }
def PieceBarsCardSaid : Prop := Claim7.holds Tryd.pinned (.plain (OpenSpec.ofChange pieceBarsSpec)) pieceBarsCard

/-- THE TIED CARD OF 'theorbolaw02.PieceValid'. -/
def pieceValidCard : Claim7 := { stood := { row := pieceValidRow, standIns := [], harness := (true, "ab8095f4e5a70f78cdc4e7cc63288777427a3453bb319a46f0f905abcb47a6fa"), looks := false }, kinds := [], alts := [], laidByText := true, laidKinds := [.data], laidTests := true, laidLooks := .later }
def PieceValidCardSaid : Prop := Claim7.holds Tryd.pinned (.plain (OpenSpec.ofChange pieceValidSpec)) pieceValidCard

/-- THE TIED CARD OF 'theorbotop.TopRewrites'. -/
def topRewritesCard : Claim7 := { stood := { row := topRewritesRow, standIns := [], harness := (true, "ab8095f4e5a70f78cdc4e7cc63288777427a3453bb319a46f0f905abcb47a6fa"), looks := false }, kinds := [], alts := [], laidByText := true, laidKinds := [.data], laidTests := true, laidLooks := .later }
def TopRewritesCardSaid : Prop := Claim7.holds Tryd.pinned (.plain (OpenSpec.ofChange topRewritesSpec)) topRewritesCard

/-- THE SECOND FORM's CARD OF 'theorbolaw02.PieceRewrites'. -/
def pieceRewritesUptoCard : Claim7 := { stood := { row := pieceRewritesUptoRow, standIns := [], harness := (true, "ab8095f4e5a70f78cdc4e7cc63288777427a3453bb319a46f0f905abcb47a6fa"), looks := false }, kinds := [], alts := [], laidByText := true, laidKinds := [.data], laidTests := true, laidLooks := .later }
def PieceRewritesUptoCardSaid : Prop := Claim7.holds Tryd.pinned (.plain (OpenSpec.upto pieceRewritesSpec)) pieceRewritesUptoCard

/-- THE SECOND FORM's CARD OF 'theorbolaw02.PieceBreaks'. -/
def pieceBreaksUptoCard : Claim7 := { stood := { row := pieceBreaksUptoRow, standIns := [], harness := (true, "ab8095f4e5a70f78cdc4e7cc63288777427a3453bb319a46f0f905abcb47a6fa"), looks := false }, kinds := [], alts := [], laidByText := true, laidKinds := [.data], laidTests := true, laidLooks := .later }
def PieceBreaksUptoCardSaid : Prop := Claim7.holds Tryd.pinned (.plain (OpenSpec.upto pieceBreaksSpec)) pieceBreaksUptoCard

/-- THE SECOND FORM's CARD OF 'theorbolaw02.PieceBars'. -/
def pieceBarsUptoCard : Claim7 := { stood := { row := pieceBarsUptoRow, standIns := [], harness := (true, "ab8095f4e5a70f78cdc4e7cc63288777427a3453bb319a46f0f905abcb47a6fa"), looks := false }, kinds := [], alts := [], laidByText := true, laidKinds := [.data], laidTests := true, laidLooks := .later }
def PieceBarsUptoCardSaid : Prop := Claim7.holds Tryd.pinned (.plain (OpenSpec.upto pieceBarsSpec)) pieceBarsUptoCard

/-- THE SECOND FORM's CARD OF 'theorbolaw02.PieceValid'. -/
def pieceValidUptoCard : Claim7 := { stood := { row := pieceValidUptoRow, standIns := [], harness := (true, "ab8095f4e5a70f78cdc4e7cc63288777427a3453bb319a46f0f905abcb47a6fa"), looks := false }, kinds := [], alts := [], laidByText := true, laidKinds := [.data], laidTests := true, laidLooks := .later }
def PieceValidUptoCardSaid : Prop := Claim7.holds Tryd.pinned (.plain (OpenSpec.upto pieceValidSpec)) pieceValidUptoCard

/-- THE SECOND FORM's CARD OF 'theorbotop.TopRewrites'. -/
def topRewritesUptoCard : Claim7 := { stood := { row := topRewritesUptoRow, standIns := [], harness := (true, "ab8095f4e5a70f78cdc4e7cc63288777427a3453bb319a46f0f905abcb47a6fa"), looks := false }, kinds := [], alts := [], laidByText := true, laidKinds := [.data], laidTests := true, laidLooks := .later }
def TopRewritesUptoCardSaid : Prop := Claim7.holds Tryd.pinned (.plain (OpenSpec.upto topRewritesSpec)) topRewritesUptoCard
end Rows
end Go.Proofs.YtdhjigaocamglaaDoor
