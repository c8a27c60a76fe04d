/-
  NARROWER THAN 'FOR EVERY INPUT', by the rows' own cells (each row's printed sentence says how): PieceSigns: laid · PieceSignsAdd: laid · PieceChecks: laid · PieceTimes: laid · PieceAugments: laid · PieceCompares: laid.
  DERIVED. THE GIVEN ROWS OF THIS SEAT. 6 by the template 'for every input the law returns true; each argument reads behind the call as it read before'; 0 by the template 'total and deterministic' (their statements: YtamfbglhachffaaDoorTotals.lean).
  GIVEN WITH THE SEED: the statements are not yours to turn. If you find one false, say at which input.
  Laid BY PROGRAM, IN A SANDBOX (cutbox-rows.mjs): the forced cells as the released guide's own fill.sh prints them over the translation 7eff3adc2cde1710… (all of the seat's roots in one cut). By AI agents, Wed Nov 11 2026. No macro, syntax, notation, axiom, sorry.
-/
import Derived.Test.YtamfbglhachffaaDoorChecked
import GoSem.Claim
import GoSem.ClaimJoined
import GoSem.ClaimMapViews
import Derived.JoinedTies
import Derived.KernelRfl
namespace Go.Proofs.YtamfbglhachffaaDoor
/- THE CELL 'sum', in the pinned program and in every row, IS THE sha256 OF THE DUMP (.gsa) THAT YtamfbglhachffaaDoorProg.lean LOADS. Nothing in Lean hashes anything: it is a label: what it is worth is what the hold of that sum in a sandbox is worth. -/
noncomputable def Tryd.pinned : Pinned := { name := "ytamfbglhachffaadoor", sum := "7eff3adc2cde17100d8b92705eda8fda7e181c37f31660754753d0ef89a2a799", checked := Tryd.checked }
namespace Rows
def none {H : Type} : Left H := { results := [], args := [] }

/- WHAT THE LISTED PACKAGE-LEVEL VARIABLES READ AS WHEN THE CALL BEGINS. Each datum BY PROGRAM (the guide's laid-datum.mjs) off the statement by which the dump's own 'gosem.cut.vars' lays the variable. In a bare row this is a premise. The card (YtamfbglhachffaaDoorCards.lean) ties it to the program's text. -/
def laid_theorbo_piece_signs {H : Type} : DataW H := .agg [.agg [.lit (.int .i64 1), .lit (.bool true), .lit (.bool false)], .agg [.lit (.int .i64 1), .lit (.bool false), .lit (.bool false)], .agg [.lit (.int .i64 2), .lit (.bool true), .lit (.bool false)], .agg [.lit (.int .i64 1), .lit (.bool false), .lit (.bool true)], .agg [.lit (.int .i64 2), .lit (.bool false), .lit (.bool false)], .agg [.lit (.int .i64 3), .lit (.bool true), .lit (.bool false)], .agg [.lit (.int .i64 2), .lit (.bool false), .lit (.bool true)], .agg [.lit (.int .i64 3), .lit (.bool false), .lit (.bool false)], .agg [.lit (.int .i64 4), .lit (.bool true), .lit (.bool false)], .agg [.lit (.int .i64 3), .lit (.bool false), .lit (.bool true)], .agg [.lit (.int .i64 4), .lit (.bool false), .lit (.bool false)], .agg [.lit (.int .i64 5), .lit (.bool true), .lit (.bool false)], .agg [.lit (.int .i64 4), .lit (.bool false), .lit (.bool true)], .agg [.lit (.int .i64 5), .lit (.bool false), .lit (.bool false)], .agg [.lit (.int .i64 6), .lit (.bool true), .lit (.bool false)], .agg [.lit (.int .i64 5), .lit (.bool false), .lit (.bool true)], .agg [.lit (.int .i64 6), .lit (.bool false), .lit (.bool false)], .agg [.lit (.int .i64 7), .lit (.bool true), .lit (.bool false)], .agg [.lit (.int .i64 6), .lit (.bool false), .lit (.bool true)], .agg [.lit (.int .i64 7), .lit (.bool false), .lit (.bool false)], .agg [.lit (.int .i64 7), .lit (.bool false), .lit (.bool true)]]

/-- 'theorbolaw02.PieceSigns': WHATEVER THE INPUT: true; the input reads as it did. -/
def pieceSignsSpec : ChangeSpec := { name := "pieceSigns", fn := fun _ => fun
  | [d] => { results := [.lit (.bool true)], args := [d] }
  | _ => none }
def pieceSignsRow : OpenClaim := { program := "ytamfbglhachffaadoor", sum := "7eff3adc2cde17100d8b92705eda8fda7e181c37f31660754753d0ef89a2a799", func := "theorbo/theorbolaw02.PieceSigns", spec := "pieceSigns", unfollowed := true, recurses := true, named := ["theorbo/piece.signs"], apart := false, laid := [("theorbo/piece.signs", laid_theorbo_piece_signs)] }
def PieceSignsSaid : Prop := pieceSignsRow.holds Tryd.pinned (OpenSpec.ofChange pieceSignsSpec)

/-- ITS FALSE NEIGHBOUR: 'it returns false'. Refute it at one input. -/
def pieceSignsWrong : ChangeSpec := { name := "pieceSigns", fn := fun _ => fun
  | [d] => { results := [.lit (.bool false)], args := [d] }
  | _ => none }
def PieceSignsWrongFalsely : Prop := pieceSignsRow.holds Tryd.pinned (OpenSpec.ofChange pieceSignsWrong)

/-- 'theorbolaw02.PieceSignsAdd': WHATEVER THE INPUT: true; the input reads as it did. -/
def pieceSignsAddSpec : ChangeSpec := { name := "pieceSignsAdd", fn := fun _ => fun
  | [d1, d2] => { results := [.lit (.bool true)], args := [d1, d2] }
  | _ => none }
def pieceSignsAddRow : OpenClaim := { program := "ytamfbglhachffaadoor", sum := "7eff3adc2cde17100d8b92705eda8fda7e181c37f31660754753d0ef89a2a799", func := "theorbo/theorbolaw02.PieceSignsAdd", spec := "pieceSignsAdd", unfollowed := true, recurses := true, named := ["theorbo/piece.signs"], apart := false, laid := [("theorbo/piece.signs", laid_theorbo_piece_signs)] }
def PieceSignsAddSaid : Prop := pieceSignsAddRow.holds Tryd.pinned (OpenSpec.ofChange pieceSignsAddSpec)

/-- ITS FALSE NEIGHBOUR: 'it returns false'. Refute it at one input. -/
def pieceSignsAddWrong : ChangeSpec := { name := "pieceSignsAdd", fn := fun _ => fun
  | [d1, d2] => { results := [.lit (.bool false)], args := [d1, d2] }
  | _ => none }
def PieceSignsAddWrongFalsely : Prop := pieceSignsAddRow.holds Tryd.pinned (OpenSpec.ofChange pieceSignsAddWrong)

/-- 'theorbolaw02.PieceChecks': WHATEVER THE INPUT: true; the input reads as it did. -/
def pieceChecksSpec : ChangeSpec := { name := "pieceChecks", fn := fun _ => fun
  | [d1, d2, d3] => { results := [.lit (.bool true)], args := [d1, d2, d3] }
  | _ => none }
def pieceChecksRow : OpenClaim := { program := "ytamfbglhachffaadoor", sum := "7eff3adc2cde17100d8b92705eda8fda7e181c37f31660754753d0ef89a2a799", func := "theorbo/theorbolaw02.PieceChecks", spec := "pieceChecks", unfollowed := true, recurses := true, named := ["theorbo/piece.signs"], apart := false, laid := [("theorbo/piece.signs", laid_theorbo_piece_signs)] }
def PieceChecksSaid : Prop := pieceChecksRow.holds Tryd.pinned (OpenSpec.ofChange pieceChecksSpec)

/-- ITS FALSE NEIGHBOUR: 'it returns false'. Refute it at one input. -/
def pieceChecksWrong : ChangeSpec := { name := "pieceChecks", fn := fun _ => fun
  | [d1, d2, d3] => { results := [.lit (.bool false)], args := [d1, d2, d3] }
  | _ => none }
def PieceChecksWrongFalsely : Prop := pieceChecksRow.holds Tryd.pinned (OpenSpec.ofChange pieceChecksWrong)

/-- 'theorbolaw02.PieceTimes': WHATEVER THE INPUT: true; the input reads as it did. -/
def pieceTimesSpec : ChangeSpec := { name := "pieceTimes", fn := fun _ => fun
  | [d] => { results := [.lit (.bool true)], args := [d] }
  | _ => none }
def pieceTimesRow : OpenClaim := { program := "ytamfbglhachffaadoor", sum := "7eff3adc2cde17100d8b92705eda8fda7e181c37f31660754753d0ef89a2a799", func := "theorbo/theorbolaw02.PieceTimes", spec := "pieceTimes", unfollowed := true, recurses := true, named := ["theorbo/piece.signs"], apart := false, laid := [("theorbo/piece.signs", laid_theorbo_piece_signs)] }
def PieceTimesSaid : Prop := pieceTimesRow.holds Tryd.pinned (OpenSpec.ofChange pieceTimesSpec)

/-- ITS FALSE NEIGHBOUR: 'it returns false'. Refute it at one input. -/
def pieceTimesWrong : ChangeSpec := { name := "pieceTimes", fn := fun _ => fun
  | [d] => { results := [.lit (.bool false)], args := [d] }
  | _ => none }
def PieceTimesWrongFalsely : Prop := pieceTimesRow.holds Tryd.pinned (OpenSpec.ofChange pieceTimesWrong)

/-- 'theorbolaw02.PieceAugments': WHATEVER THE INPUT: true; the input reads as it did. -/
def pieceAugmentsSpec : ChangeSpec := { name := "pieceAugments", fn := fun _ => fun
  | [d1, d2] => { results := [.lit (.bool true)], args := [d1, d2] }
  | _ => none }
def pieceAugmentsRow : OpenClaim := { program := "ytamfbglhachffaadoor", sum := "7eff3adc2cde17100d8b92705eda8fda7e181c37f31660754753d0ef89a2a799", func := "theorbo/theorbolaw02.PieceAugments", spec := "pieceAugments", unfollowed := true, recurses := true, named := ["theorbo/piece.signs"], apart := false, laid := [("theorbo/piece.signs", laid_theorbo_piece_signs)] }
def PieceAugmentsSaid : Prop := pieceAugmentsRow.holds Tryd.pinned (OpenSpec.ofChange pieceAugmentsSpec)

/-- ITS FALSE NEIGHBOUR: 'it returns false'. Refute it at one input. -/
def pieceAugmentsWrong : ChangeSpec := { name := "pieceAugments", fn := fun _ => fun
  | [d1, d2] => { results := [.lit (.bool false)], args := [d1, d2] }
  | _ => none }
def PieceAugmentsWrongFalsely : Prop := pieceAugmentsRow.holds Tryd.pinned (OpenSpec.ofChange pieceAugmentsWrong)

/-- 'theorbolaw02.PieceCompares': WHATEVER THE INPUT: true; the input reads as it did. -/
def pieceComparesSpec : ChangeSpec := { name := "pieceCompares", fn := fun _ => fun
  | [d1, d2] => { results := [.lit (.bool true)], args := [d1, d2] }
  | _ => none }
def pieceComparesRow : OpenClaim := { program := "ytamfbglhachffaadoor", sum := "7eff3adc2cde17100d8b92705eda8fda7e181c37f31660754753d0ef89a2a799", func := "theorbo/theorbolaw02.PieceCompares", spec := "pieceCompares", unfollowed := true, recurses := true, named := ["theorbo/piece.signs"], apart := false, laid := [("theorbo/piece.signs", laid_theorbo_piece_signs)] }
def PieceComparesSaid : Prop := pieceComparesRow.holds Tryd.pinned (OpenSpec.ofChange pieceComparesSpec)

/-- ITS FALSE NEIGHBOUR: 'it returns false'. Refute it at one input. -/
def pieceComparesWrong : ChangeSpec := { name := "pieceCompares", fn := fun _ => fun
  | [d1, d2] => { results := [.lit (.bool false)], args := [d1, d2] }
  | _ => none }
def PieceComparesWrongFalsely : Prop := pieceComparesRow.holds Tryd.pinned (OpenSpec.ofChange pieceComparesWrong)

/- THE SECOND FORM. 'bulk': how many values and letters a reading holds, each counted each time it is reached (what is shared counts as often as it is met; a slice's spare places count too). A statement '..UptoSaid' is the law's where the arguments, and the package variables that the reading takes, are together of bulk at most 1048576: NARROWER than '..Said'. Prove '..Said' where nothing that the law and all that it calls make is longer than what came in: it says more and counts as full. Else prove '..UptoSaid'. A law counts once. -/
mutual
def uptoBulk {H : Type} : DataW H → Nat
  | .lit (.string bytes) => bytes.length + 1
  | .lit _ => 1
  | .nil => 1
  | .ptr d => uptoBulk d + 1
  | .slice elems spare => uptoBulkAll elems + uptoBulkAll spare + 1
  | .agg parts => uptoBulkAll parts + 1
  | .iface _ d => uptoBulk d + 1
  | .map entries => uptoBulkEntries entries + 1
  | .held _ => 1
def uptoBulkAll {H : Type} : List (DataW H) → Nat
  | [] => 0
  | d :: r => uptoBulk d + uptoBulkAll r
def uptoBulkEntries {H : Type} : List (Lit × DataW H) → Nat
  | [] => 0
  | x :: r => uptoBulkEntry x + uptoBulkEntries r
def uptoBulkEntry {H : Type} : Lit × DataW H → Nat
  | (.string bytes, d) => bytes.length + uptoBulk d + 1
  | (_, d) => uptoBulk d + 1
 end
def uptoSmall : (H : Type) → List (DataW H) → Bool := fun _ ds => decide (uptoBulkAll ds ≤ 1048576)
def OpenSpec.upto (s : _root_.Go.ChangeSpec) : _root_.Go.OpenSpec := { _root_.Go.OpenSpec.ofChange s with cond := some uptoSmall }

/-- 'theorbolaw02.PieceSigns', WHERE WHAT IT READS IS OF BULK AT MOST 1048576: true; the input reads as it did. -/
def pieceSignsUptoRow : OpenClaim := { program := "ytamfbglhachffaadoor", sum := "7eff3adc2cde17100d8b92705eda8fda7e181c37f31660754753d0ef89a2a799", func := "theorbo/theorbolaw02.PieceSigns", spec := "pieceSigns", unfollowed := true, recurses := true, named := ["theorbo/piece.signs"], apart := false, laid := [("theorbo/piece.signs", laid_theorbo_piece_signs)], narrowed := true }
def PieceSignsUptoSaid : Prop := pieceSignsUptoRow.holds Tryd.pinned (OpenSpec.upto pieceSignsSpec)

/-- 'theorbolaw02.PieceSignsAdd', WHERE WHAT IT READS IS OF BULK AT MOST 1048576: true; the input reads as it did. -/
def pieceSignsAddUptoRow : OpenClaim := { program := "ytamfbglhachffaadoor", sum := "7eff3adc2cde17100d8b92705eda8fda7e181c37f31660754753d0ef89a2a799", func := "theorbo/theorbolaw02.PieceSignsAdd", spec := "pieceSignsAdd", unfollowed := true, recurses := true, named := ["theorbo/piece.signs"], apart := false, laid := [("theorbo/piece.signs", laid_theorbo_piece_signs)], narrowed := true }
def PieceSignsAddUptoSaid : Prop := pieceSignsAddUptoRow.holds Tryd.pinned (OpenSpec.upto pieceSignsAddSpec)

/-- 'theorbolaw02.PieceChecks', WHERE WHAT IT READS IS OF BULK AT MOST 1048576: true; the input reads as it did. -/
def pieceChecksUptoRow : OpenClaim := { program := "ytamfbglhachffaadoor", sum := "7eff3adc2cde17100d8b92705eda8fda7e181c37f31660754753d0ef89a2a799", func := "theorbo/theorbolaw02.PieceChecks", spec := "pieceChecks", unfollowed := true, recurses := true, named := ["theorbo/piece.signs"], apart := false, laid := [("theorbo/piece.signs", laid_theorbo_piece_signs)], narrowed := true }
def PieceChecksUptoSaid : Prop := pieceChecksUptoRow.holds Tryd.pinned (OpenSpec.upto pieceChecksSpec)

/-- 'theorbolaw02.PieceTimes', WHERE WHAT IT READS IS OF BULK AT MOST 1048576: true; the input reads as it did. -/
def pieceTimesUptoRow : OpenClaim := { program := "ytamfbglhachffaadoor", sum := "7eff3adc2cde17100d8b92705eda8fda7e181c37f31660754753d0ef89a2a799", func := "theorbo/theorbolaw02.PieceTimes", spec := "pieceTimes", unfollowed := true, recurses := true, named := ["theorbo/piece.signs"], apart := false, laid := [("theorbo/piece.signs", laid_theorbo_piece_signs)], narrowed := true }
def PieceTimesUptoSaid : Prop := pieceTimesUptoRow.holds Tryd.pinned (OpenSpec.upto pieceTimesSpec)

/-- 'theorbolaw02.PieceAugments', WHERE WHAT IT READS IS OF BULK AT MOST 1048576: true; the input reads as it did. -/
def pieceAugmentsUptoRow : OpenClaim := { program := "ytamfbglhachffaadoor", sum := "7eff3adc2cde17100d8b92705eda8fda7e181c37f31660754753d0ef89a2a799", func := "theorbo/theorbolaw02.PieceAugments", spec := "pieceAugments", unfollowed := true, recurses := true, named := ["theorbo/piece.signs"], apart := false, laid := [("theorbo/piece.signs", laid_theorbo_piece_signs)], narrowed := true }
def PieceAugmentsUptoSaid : Prop := pieceAugmentsUptoRow.holds Tryd.pinned (OpenSpec.upto pieceAugmentsSpec)

/-- 'theorbolaw02.PieceCompares', WHERE WHAT IT READS IS OF BULK AT MOST 1048576: true; the input reads as it did. -/
def pieceComparesUptoRow : OpenClaim := { program := "ytamfbglhachffaadoor", sum := "7eff3adc2cde17100d8b92705eda8fda7e181c37f31660754753d0ef89a2a799", func := "theorbo/theorbolaw02.PieceCompares", spec := "pieceCompares", unfollowed := true, recurses := true, named := ["theorbo/piece.signs"], apart := false, laid := [("theorbo/piece.signs", laid_theorbo_piece_signs)], narrowed := true }
def PieceComparesUptoSaid : Prop := pieceComparesUptoRow.holds Tryd.pinned (OpenSpec.upto pieceComparesSpec)

end Rows
end Go.Proofs.YtamfbglhachffaaDoor
