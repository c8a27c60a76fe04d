/-
  DERIVED. GIVEN WITH THE SEED: THE CARDS: each row of YtjobablfojnppaaDoorRows.lean that lists a variable, with what it lists TIED to the program's text (the seventh form; the later family's looks); each row that meets fmt, with fmt's text TOLD by the authors' own Lean function (tested against real Go, not proved from fmt's source: count such statements apart). THE CARD IS WHAT COUNTS. Prove the row's statement (the work); the ties are given (YtjobablfojnppaaDoorTie.lean); close each card by the builder's one call (the guide's Derived/Test/ToyasCard.lean, 'card_holds'). Laid BY PROGRAM, IN A SANDBOX (cutbox-door.mjs). By AI agents, Wed Nov 11 2026. No macro, syntax, notation, axiom, sorry.
-/
import Derived.Test.YtjobablfojnppaaDoorRows
import GoSem.ClaimSeven
namespace Go.Proofs.YtjobablfojnppaaDoor
namespace Rows

/-- THE TIED CARD OF 'theorbolaw02.PieceRewrites'. -/
def pieceRewritesCard : Claim7 := { stood := { row := pieceRewritesRow, standIns := [], harness := (true, "82af0de7c16489c9376c6cb339af466a3904ac8cbcd458b7bea78d8a60b17c88"), looks := false }, kinds := [], alts := [], laidByText := true, laidKinds := [.data], laidTests := true, laidLooks := .later }
def PieceRewritesCardSaid : Prop := Claim7.holds Tryd.pinned (.plain (OpenSpec.ofChange pieceRewritesSpec)) pieceRewritesCard

/-- THE TIED CARD OF 'theorbolaw02.PieceTerseness'. -/
def pieceTersenessCard : Claim7 := { stood := { row := pieceTersenessRow, standIns := [], harness := (true, "82af0de7c16489c9376c6cb339af466a3904ac8cbcd458b7bea78d8a60b17c88"), looks := false }, kinds := [], alts := [], laidByText := true, laidKinds := [.data], laidTests := true, laidLooks := .later }
def PieceTersenessCardSaid : Prop := Claim7.holds Tryd.pinned (.plain (OpenSpec.ofChange pieceTersenessSpec)) pieceTersenessCard

/-- THE TIED CARD OF 'theorbolaw02.PieceBreaks'. -/
def pieceBreaksCard : Claim7 := { stood := { row := pieceBreaksRow, standIns := [], harness := (true, "82af0de7c16489c9376c6cb339af466a3904ac8cbcd458b7bea78d8a60b17c88"), looks := false }, kinds := [], alts := [], laidByText := true, laidKinds := [.data], laidTests := true, laidLooks := .later }
def PieceBreaksCardSaid : Prop := Claim7.holds Tryd.pinned (.plain (OpenSpec.ofChange pieceBreaksSpec)) pieceBreaksCard

/-- THE TIED CARD OF 'theorbolaw02.PieceBars'. -/
def pieceBarsCard : Claim7 := { stood := { row := pieceBarsRow, standIns := [], harness := (true, "82af0de7c16489c9376c6cb339af466a3904ac8cbcd458b7bea78d8a60b17c88"), looks := false }, kinds := [], alts := [], laidByText := true, laidKinds := [.data], laidTests := true, laidLooks := .later }
def PieceBarsCardSaid : Prop := Claim7.holds Tryd.pinned (.plain (OpenSpec.ofChange pieceBarsSpec)) pieceBarsCard

/-- THE TIED CARD OF 'theorbolaw02.PieceCuts'. -/
def pieceCutsCard : Claim7 := { stood := { row := pieceCutsRow, standIns := [], harness := (true, "82af0de7c16489c9376c6cb339af466a3904ac8cbcd458b7bea78d8a60b17c88"), looks := false }, kinds := [], alts := [], laidByText := true, laidKinds := [.data], laidTests := true, laidLooks := .later }
def PieceCutsCardSaid : Prop := Claim7.holds Tryd.pinned (.plain (OpenSpec.ofChange pieceCutsSpec)) pieceCutsCard

/-- THE TIED CARD OF 'theorbolaw02.PieceAppends'. -/
def pieceAppendsCard : Claim7 := { stood := { row := pieceAppendsRow, standIns := [], harness := (true, "82af0de7c16489c9376c6cb339af466a3904ac8cbcd458b7bea78d8a60b17c88"), looks := false }, kinds := [], alts := [], laidByText := true, laidKinds := [.data], laidTests := true, laidLooks := .later }
def PieceAppendsCardSaid : Prop := Claim7.holds Tryd.pinned (.plain (OpenSpec.ofChange pieceAppendsSpec)) pieceAppendsCard

/-- THE TIED CARD OF 'theorbolaw02.PieceTorn'. -/
def pieceTornCard : Claim7 := { stood := { row := pieceTornRow, standIns := [], harness := (true, "82af0de7c16489c9376c6cb339af466a3904ac8cbcd458b7bea78d8a60b17c88"), looks := false }, kinds := [], alts := [], laidByText := true, laidKinds := [.data], laidTests := true, laidLooks := .later }
def PieceTornCardSaid : Prop := Claim7.holds Tryd.pinned (.plain (OpenSpec.ofChange pieceTornSpec)) pieceTornCard

/-- THE TIED CARD OF 'theorbolaw02.PieceAugments'. -/
def pieceAugmentsCard : Claim7 := { stood := { row := pieceAugmentsRow, standIns := [], harness := (true, "82af0de7c16489c9376c6cb339af466a3904ac8cbcd458b7bea78d8a60b17c88"), looks := false }, kinds := [], alts := [], laidByText := true, laidKinds := [.data], laidTests := true, laidLooks := .later }
def PieceAugmentsCardSaid : Prop := Claim7.holds Tryd.pinned (.plain (OpenSpec.ofChange pieceAugmentsSpec)) pieceAugmentsCard

/-- THE TIED CARD OF 'theorbolaw02.PieceCompares'. -/
def pieceComparesCard : Claim7 := { stood := { row := pieceComparesRow, standIns := [], harness := (true, "82af0de7c16489c9376c6cb339af466a3904ac8cbcd458b7bea78d8a60b17c88"), looks := false }, kinds := [], alts := [], laidByText := true, laidKinds := [.data], laidTests := true, laidLooks := .later }
def PieceComparesCardSaid : Prop := Claim7.holds Tryd.pinned (.plain (OpenSpec.ofChange pieceComparesSpec)) pieceComparesCard

/-- THE TIED CARD OF 'theorbolaw02.PieceValid'. -/
def pieceValidCard : Claim7 := { stood := { row := pieceValidRow, standIns := [], harness := (true, "82af0de7c16489c9376c6cb339af466a3904ac8cbcd458b7bea78d8a60b17c88"), looks := false }, kinds := [], alts := [], laidByText := true, laidKinds := [.data], laidTests := true, laidLooks := .later }
def PieceValidCardSaid : Prop := Claim7.holds Tryd.pinned (.plain (OpenSpec.ofChange pieceValidSpec)) pieceValidCard

/-- THE TIED CARD OF 'theorbotop.TopRewrites'. -/
def topRewritesCard : Claim7 := { stood := { row := topRewritesRow, standIns := [], harness := (true, "82af0de7c16489c9376c6cb339af466a3904ac8cbcd458b7bea78d8a60b17c88"), looks := false }, kinds := [], alts := [], laidByText := true, laidKinds := [.data], laidTests := true, laidLooks := .later }
def TopRewritesCardSaid : Prop := Claim7.holds Tryd.pinned (.plain (OpenSpec.ofChange topRewritesSpec)) topRewritesCard

/-- THE SECOND FORM's CARD OF 'theorbolaw02.PieceRewrites'. -/
def pieceRewritesUptoCard : Claim7 := { stood := { row := pieceRewritesUptoRow, standIns := [], harness := (true, "82af0de7c16489c9376c6cb339af466a3904ac8cbcd458b7bea78d8a60b17c88"), looks := false }, kinds := [], alts := [], laidByText := true, laidKinds := [.data], laidTests := true, laidLooks := .later }
def PieceRewritesUptoCardSaid : Prop := Claim7.holds Tryd.pinned (.plain (OpenSpec.upto pieceRewritesSpec)) pieceRewritesUptoCard

/-- THE SECOND FORM's CARD OF 'theorbolaw02.PieceTerseness'. -/
def pieceTersenessUptoCard : Claim7 := { stood := { row := pieceTersenessUptoRow, standIns := [], harness := (true, "82af0de7c16489c9376c6cb339af466a3904ac8cbcd458b7bea78d8a60b17c88"), looks := false }, kinds := [], alts := [], laidByText := true, laidKinds := [.data], laidTests := true, laidLooks := .later }
def PieceTersenessUptoCardSaid : Prop := Claim7.holds Tryd.pinned (.plain (OpenSpec.upto pieceTersenessSpec)) pieceTersenessUptoCard

/-- THE SECOND FORM's CARD OF 'theorbolaw02.PieceBreaks'. -/
def pieceBreaksUptoCard : Claim7 := { stood := { row := pieceBreaksUptoRow, standIns := [], harness := (true, "82af0de7c16489c9376c6cb339af466a3904ac8cbcd458b7bea78d8a60b17c88"), looks := false }, kinds := [], alts := [], laidByText := true, laidKinds := [.data], laidTests := true, laidLooks := .later }
def PieceBreaksUptoCardSaid : Prop := Claim7.holds Tryd.pinned (.plain (OpenSpec.upto pieceBreaksSpec)) pieceBreaksUptoCard

/-- THE SECOND FORM's CARD OF 'theorbolaw02.PieceBars'. -/
def pieceBarsUptoCard : Claim7 := { stood := { row := pieceBarsUptoRow, standIns := [], harness := (true, "82af0de7c16489c9376c6cb339af466a3904ac8cbcd458b7bea78d8a60b17c88"), looks := false }, kinds := [], alts := [], laidByText := true, laidKinds := [.data], laidTests := true, laidLooks := .later }
def PieceBarsUptoCardSaid : Prop := Claim7.holds Tryd.pinned (.plain (OpenSpec.upto pieceBarsSpec)) pieceBarsUptoCard

/-- THE SECOND FORM's CARD OF 'theorbolaw02.PieceCuts'. -/
def pieceCutsUptoCard : Claim7 := { stood := { row := pieceCutsUptoRow, standIns := [], harness := (true, "82af0de7c16489c9376c6cb339af466a3904ac8cbcd458b7bea78d8a60b17c88"), looks := false }, kinds := [], alts := [], laidByText := true, laidKinds := [.data], laidTests := true, laidLooks := .later }
def PieceCutsUptoCardSaid : Prop := Claim7.holds Tryd.pinned (.plain (OpenSpec.upto pieceCutsSpec)) pieceCutsUptoCard

/-- THE SECOND FORM's CARD OF 'theorbolaw02.PieceAppends'. -/
def pieceAppendsUptoCard : Claim7 := { stood := { row := pieceAppendsUptoRow, standIns := [], harness := (true, "82af0de7c16489c9376c6cb339af466a3904ac8cbcd458b7bea78d8a60b17c88"), looks := false }, kinds := [], alts := [], laidByText := true, laidKinds := [.data], laidTests := true, laidLooks := .later }
def PieceAppendsUptoCardSaid : Prop := Claim7.holds Tryd.pinned (.plain (OpenSpec.upto pieceAppendsSpec)) pieceAppendsUptoCard

/-- THE SECOND FORM's CARD OF 'theorbolaw02.PieceTorn'. -/
def pieceTornUptoCard : Claim7 := { stood := { row := pieceTornUptoRow, standIns := [], harness := (true, "82af0de7c16489c9376c6cb339af466a3904ac8cbcd458b7bea78d8a60b17c88"), looks := false }, kinds := [], alts := [], laidByText := true, laidKinds := [.data], laidTests := true, laidLooks := .later }
def PieceTornUptoCardSaid : Prop := Claim7.holds Tryd.pinned (.plain (OpenSpec.upto pieceTornSpec)) pieceTornUptoCard

/-- THE SECOND FORM's CARD OF 'theorbolaw02.PieceAugments'. -/
def pieceAugmentsUptoCard : Claim7 := { stood := { row := pieceAugmentsUptoRow, standIns := [], harness := (true, "82af0de7c16489c9376c6cb339af466a3904ac8cbcd458b7bea78d8a60b17c88"), looks := false }, kinds := [], alts := [], laidByText := true, laidKinds := [.data], laidTests := true, laidLooks := .later }
def PieceAugmentsUptoCardSaid : Prop := Claim7.holds Tryd.pinned (.plain (OpenSpec.upto pieceAugmentsSpec)) pieceAugmentsUptoCard

/-- THE SECOND FORM's CARD OF 'theorbolaw02.PieceCompares'. -/
def pieceComparesUptoCard : Claim7 := { stood := { row := pieceComparesUptoRow, standIns := [], harness := (true, "82af0de7c16489c9376c6cb339af466a3904ac8cbcd458b7bea78d8a60b17c88"), looks := false }, kinds := [], alts := [], laidByText := true, laidKinds := [.data], laidTests := true, laidLooks := .later }
def PieceComparesUptoCardSaid : Prop := Claim7.holds Tryd.pinned (.plain (OpenSpec.upto pieceComparesSpec)) pieceComparesUptoCard

/-- THE SECOND FORM's CARD OF 'theorbolaw02.PieceValid'. -/
def pieceValidUptoCard : Claim7 := { stood := { row := pieceValidUptoRow, standIns := [], harness := (true, "82af0de7c16489c9376c6cb339af466a3904ac8cbcd458b7bea78d8a60b17c88"), looks := false }, kinds := [], alts := [], laidByText := true, laidKinds := [.data], laidTests := true, laidLooks := .later }
def PieceValidUptoCardSaid : Prop := Claim7.holds Tryd.pinned (.plain (OpenSpec.upto pieceValidSpec)) pieceValidUptoCard

/-- THE SECOND FORM's CARD OF 'theorbotop.TopRewrites'. -/
def topRewritesUptoCard : Claim7 := { stood := { row := topRewritesUptoRow, standIns := [], harness := (true, "82af0de7c16489c9376c6cb339af466a3904ac8cbcd458b7bea78d8a60b17c88"), looks := false }, kinds := [], alts := [], laidByText := true, laidKinds := [.data], laidTests := true, laidLooks := .later }
def TopRewritesUptoCardSaid : Prop := Claim7.holds Tryd.pinned (.plain (OpenSpec.upto topRewritesSpec)) topRewritesUptoCard
end Rows
end Go.Proofs.YtjobablfojnppaaDoor
