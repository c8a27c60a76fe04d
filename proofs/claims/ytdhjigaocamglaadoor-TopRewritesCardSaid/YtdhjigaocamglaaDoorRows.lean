/-
  NARROWER THAN 'FOR EVERY INPUT', by the rows' own cells (each row's printed sentence says how): PieceRewrites: laid · PieceBreaks: laid · PieceBars: laid · PieceValid: laid · TopRewrites: laid.
  DERIVED. THE GIVEN ROWS OF THIS SEAT. 5 by the template 'for every input the law returns true; each argument reads behind the call as it read before'; 0 by the template 'total and deterministic' (their statements: YtdhjigaocamglaaDoorTotals.lean).
  GIVEN WITH THE SEED: the statements are not yours to turn. If you find one false, say at which input.
  Laid BY PROGRAM, IN A SANDBOX (cutbox-rows.mjs): the forced cells as the released guide's own fill.sh prints them over the translation ebcbc4db7ef40bf7… (all of the seat's roots in one cut). By AI agents, Wed Nov 11 2026. No macro, syntax, notation, axiom, sorry.
-/
import Derived.Test.YtdhjigaocamglaaDoorChecked
import GoSem.Claim
import GoSem.ClaimJoined
import GoSem.ClaimMapViews
import Derived.JoinedTies
import Derived.KernelRfl
namespace Go.Proofs.YtdhjigaocamglaaDoor
/- THE CELL 'sum', in the pinned program and in every row, IS THE sha256 OF THE DUMP (.gsa) THAT YtdhjigaocamglaaDoorProg.lean LOADS. Nothing in Lean hashes anything: it is a label: what it is worth is what the hold of that sum in a sandbox is worth. -/
noncomputable def Tryd.pinned : Pinned := { name := "ytdhjigaocamglaadoor", sum := "ebcbc4db7ef40bf7fcbea933858138e15f2b17616d32a4c4cb993852e1bac952", checked := Tryd.checked }
namespace Rows
def none {H : Type} : Left H := { results := [], args := [] }

/- WHAT THE LISTED PACKAGE-LEVEL VARIABLES READ AS WHEN THE CALL BEGINS. Each datum BY PROGRAM (the guide's laid-datum.mjs) off the statement by which the dump's own 'gosem.cut.vars' lays the variable. In a bare row this is a premise. The card (YtdhjigaocamglaaDoorCards.lean) ties it to the program's text. -/
def laid_theorbo_piece_signs {H : Type} : DataW H := .agg [.agg [.lit (.int .i64 1), .lit (.bool true), .lit (.bool false)], .agg [.lit (.int .i64 1), .lit (.bool false), .lit (.bool false)], .agg [.lit (.int .i64 2), .lit (.bool true), .lit (.bool false)], .agg [.lit (.int .i64 1), .lit (.bool false), .lit (.bool true)], .agg [.lit (.int .i64 2), .lit (.bool false), .lit (.bool false)], .agg [.lit (.int .i64 3), .lit (.bool true), .lit (.bool false)], .agg [.lit (.int .i64 2), .lit (.bool false), .lit (.bool true)], .agg [.lit (.int .i64 3), .lit (.bool false), .lit (.bool false)], .agg [.lit (.int .i64 4), .lit (.bool true), .lit (.bool false)], .agg [.lit (.int .i64 3), .lit (.bool false), .lit (.bool true)], .agg [.lit (.int .i64 4), .lit (.bool false), .lit (.bool false)], .agg [.lit (.int .i64 5), .lit (.bool true), .lit (.bool false)], .agg [.lit (.int .i64 4), .lit (.bool false), .lit (.bool true)], .agg [.lit (.int .i64 5), .lit (.bool false), .lit (.bool false)], .agg [.lit (.int .i64 6), .lit (.bool true), .lit (.bool false)], .agg [.lit (.int .i64 5), .lit (.bool false), .lit (.bool true)], .agg [.lit (.int .i64 6), .lit (.bool false), .lit (.bool false)], .agg [.lit (.int .i64 7), .lit (.bool true), .lit (.bool false)], .agg [.lit (.int .i64 6), .lit (.bool false), .lit (.bool true)], .agg [.lit (.int .i64 7), .lit (.bool false), .lit (.bool false)], .agg [.lit (.int .i64 7), .lit (.bool false), .lit (.bool true)]]

/-- 'theorbolaw02.PieceRewrites': WHATEVER THE INPUT: true; the input reads as it did. -/
def pieceRewritesSpec : ChangeSpec := { name := "pieceRewrites", fn := fun _ => fun
  | [d] => { results := [.lit (.bool true)], args := [d] }
  | _ => none }
def pieceRewritesRow : OpenClaim := { program := "ytdhjigaocamglaadoor", sum := "ebcbc4db7ef40bf7fcbea933858138e15f2b17616d32a4c4cb993852e1bac952", func := "theorbo/theorbolaw02.PieceRewrites", spec := "pieceRewrites", unfollowed := true, recurses := true, named := ["theorbo/piece.signs"], apart := false, laid := [("theorbo/piece.signs", laid_theorbo_piece_signs)] }
def PieceRewritesSaid : Prop := pieceRewritesRow.holds Tryd.pinned (OpenSpec.ofChange pieceRewritesSpec)

/-- ITS FALSE NEIGHBOUR: 'it returns false'. Refute it at one input. -/
def pieceRewritesWrong : ChangeSpec := { name := "pieceRewrites", fn := fun _ => fun
  | [d] => { results := [.lit (.bool false)], args := [d] }
  | _ => none }
def PieceRewritesWrongFalsely : Prop := pieceRewritesRow.holds Tryd.pinned (OpenSpec.ofChange pieceRewritesWrong)

/-- 'theorbolaw02.PieceBreaks': WHATEVER THE INPUT: true; the input reads as it did. -/
def pieceBreaksSpec : ChangeSpec := { name := "pieceBreaks", fn := fun _ => fun
  | [d1, d2] => { results := [.lit (.bool true)], args := [d1, d2] }
  | _ => none }
def pieceBreaksRow : OpenClaim := { program := "ytdhjigaocamglaadoor", sum := "ebcbc4db7ef40bf7fcbea933858138e15f2b17616d32a4c4cb993852e1bac952", func := "theorbo/theorbolaw02.PieceBreaks", spec := "pieceBreaks", unfollowed := true, recurses := true, named := ["theorbo/piece.signs"], apart := false, laid := [("theorbo/piece.signs", laid_theorbo_piece_signs)] }
def PieceBreaksSaid : Prop := pieceBreaksRow.holds Tryd.pinned (OpenSpec.ofChange pieceBreaksSpec)

/-- ITS FALSE NEIGHBOUR: 'it returns false'. Refute it at one input. -/
def pieceBreaksWrong : ChangeSpec := { name := "pieceBreaks", fn := fun _ => fun
  | [d1, d2] => { results := [.lit (.bool false)], args := [d1, d2] }
  | _ => none }
def PieceBreaksWrongFalsely : Prop := pieceBreaksRow.holds Tryd.pinned (OpenSpec.ofChange pieceBreaksWrong)

/-- 'theorbolaw02.PieceBars': WHATEVER THE INPUT: true; the input reads as it did. -/
def pieceBarsSpec : ChangeSpec := { name := "pieceBars", fn := fun _ => fun
  | [d1, d2] => { results := [.lit (.bool true)], args := [d1, d2] }
  | _ => none }
def pieceBarsRow : OpenClaim := { program := "ytdhjigaocamglaadoor", sum := "ebcbc4db7ef40bf7fcbea933858138e15f2b17616d32a4c4cb993852e1bac952", func := "theorbo/theorbolaw02.PieceBars", spec := "pieceBars", unfollowed := true, recurses := true, named := ["theorbo/piece.signs"], apart := false, laid := [("theorbo/piece.signs", laid_theorbo_piece_signs)] }
def PieceBarsSaid : Prop := pieceBarsRow.holds Tryd.pinned (OpenSpec.ofChange pieceBarsSpec)

/-- ITS FALSE NEIGHBOUR: 'it returns false'. Refute it at one input. -/
def pieceBarsWrong : ChangeSpec := { name := "pieceBars", fn := fun _ => fun
  | [d1, d2] => { results := [.lit (.bool false)], args := [d1, d2] }
  | _ => none }
def PieceBarsWrongFalsely : Prop := pieceBarsRow.holds Tryd.pinned (OpenSpec.ofChange pieceBarsWrong)

/-- 'theorbolaw02.PieceValid': WHATEVER THE INPUT: true; the input reads as it did. -/
def pieceValidSpec : ChangeSpec := { name := "pieceValid", fn := fun _ => fun
  | [d1, d2, d3] => { results := [.lit (.bool true)], args := [d1, d2, d3] }
  | _ => none }
def pieceValidRow : OpenClaim := { program := "ytdhjigaocamglaadoor", sum := "ebcbc4db7ef40bf7fcbea933858138e15f2b17616d32a4c4cb993852e1bac952", func := "theorbo/theorbolaw02.PieceValid", spec := "pieceValid", unfollowed := true, recurses := true, named := ["theorbo/piece.signs"], apart := false, laid := [("theorbo/piece.signs", laid_theorbo_piece_signs)] }
def PieceValidSaid : Prop := pieceValidRow.holds Tryd.pinned (OpenSpec.ofChange pieceValidSpec)

/-- ITS FALSE NEIGHBOUR: 'it returns false'. Refute it at one input. -/
def pieceValidWrong : ChangeSpec := { name := "pieceValid", fn := fun _ => fun
  | [d1, d2, d3] => { results := [.lit (.bool false)], args := [d1, d2, d3] }
  | _ => none }
def PieceValidWrongFalsely : Prop := pieceValidRow.holds Tryd.pinned (OpenSpec.ofChange pieceValidWrong)

/-- 'theorbotop.TopRewrites': WHATEVER THE INPUT: true; the input reads as it did. -/
def topRewritesSpec : ChangeSpec := { name := "topRewrites", fn := fun _ => fun
  | [d1, d2] => { results := [.lit (.bool true)], args := [d1, d2] }
  | _ => none }
def topRewritesRow : OpenClaim := { program := "ytdhjigaocamglaadoor", sum := "ebcbc4db7ef40bf7fcbea933858138e15f2b17616d32a4c4cb993852e1bac952", func := "theorbo/theorbotop.TopRewrites", spec := "topRewrites", unfollowed := true, recurses := true, named := ["theorbo/piece.signs"], apart := false, laid := [("theorbo/piece.signs", laid_theorbo_piece_signs)] }
def TopRewritesSaid : Prop := topRewritesRow.holds Tryd.pinned (OpenSpec.ofChange topRewritesSpec)

/-- ITS FALSE NEIGHBOUR: 'it returns false'. Refute it at one input. -/
def topRewritesWrong : ChangeSpec := { name := "topRewrites", fn := fun _ => fun
  | [d1, d2] => { results := [.lit (.bool false)], args := [d1, d2] }
  | _ => none }
def TopRewritesWrongFalsely : Prop := topRewritesRow.holds Tryd.pinned (OpenSpec.ofChange topRewritesWrong)

/- THE SECOND FORM. 'bulk': how many values and letters a reading holds, each counted each time it is reached (what is shared counts as often as it is met; a slice's spare places count too). A statement '..UptoSaid' is the law's where the arguments, and the package variables that the reading takes, are together of bulk at most 1048576: NARROWER than '..Said'. Prove '..Said' where nothing that the law and all that it calls make is longer than what came in: it says more and counts as full. Else prove '..UptoSaid'. A law counts once. -/
mutual
def uptoBulk {H : Type} : DataW H → Nat
  | .lit (.string bytes) => bytes.length + 1
  | .lit _ => 1
  | .nil => 1
  | .ptr d => uptoBulk d + 1
  | .slice elems spare => uptoBulkAll elems + uptoBulkAll spare + 1
  | .agg parts => uptoBulkAll parts + 1
  | .iface _ d => uptoBulk d + 1
  | .map entries => uptoBulkEntries entries + 1
  | .held _ => 1
def uptoBulkAll {H : Type} : List (DataW H) → Nat
  | [] => 0
  | d :: r => uptoBulk d + uptoBulkAll r
def uptoBulkEntries {H : Type} : List (Lit × DataW H) → Nat
  | [] => 0
  | x :: r => uptoBulkEntry x + uptoBulkEntries r
def uptoBulkEntry {H : Type} : Lit × DataW H → Nat
  | (.string bytes, d) => bytes.length + uptoBulk d + 1
  | (_, d) => uptoBulk d + 1
 end
def uptoSmall : (H : Type) → List (DataW H) → Bool := fun _ ds => decide (uptoBulkAll ds ≤ 1048576)
def OpenSpec.upto (s : _root_.Go.ChangeSpec) : _root_.Go.OpenSpec := { _root_.Go.OpenSpec.ofChange s with cond := some uptoSmall }

/-- 'theorbolaw02.PieceRewrites', WHERE WHAT IT READS IS OF BULK AT MOST 1048576: true; the input reads as it did. -/
def pieceRewritesUptoRow : OpenClaim := { program := "ytdhjigaocamglaadoor", sum := "ebcbc4db7ef40bf7fcbea933858138e15f2b17616d32a4c4cb993852e1bac952", func := "theorbo/theorbolaw02.PieceRewrites", spec := "pieceRewrites", unfollowed := true, recurses := true, named := ["theorbo/piece.signs"], apart := false, laid := [("theorbo/piece.signs", laid_theorbo_piece_signs)], narrowed := true }
def PieceRewritesUptoSaid : Prop := pieceRewritesUptoRow.holds Tryd.pinned (OpenSpec.upto pieceRewritesSpec)

/-- 'theorbolaw02.PieceBreaks', WHERE WHAT IT READS IS OF BULK AT MOST 1048576: true; the input reads as it did. -/
def pieceBreaksUptoRow : OpenClaim := { program := "ytdhjigaocamglaadoor", sum := "ebcbc4db7ef40bf7fcbea933858138e15f2b17616d32a4c4cb993852e1bac952", func := "theorbo/theorbolaw02.PieceBreaks", spec := "pieceBreaks", unfollowed := true, recurses := true, named := ["theorbo/piece.signs"], apart := false, laid := [("theorbo/piece.signs", laid_theorbo_piece_signs)], narrowed := true }
def PieceBreaksUptoSaid : Prop := pieceBreaksUptoRow.holds Tryd.pinned (OpenSpec.upto pieceBreaksSpec)

/-- 'theorbolaw02.PieceBars', WHERE WHAT IT READS IS OF BULK AT MOST 1048576: true; the input reads as it did. -/
def pieceBarsUptoRow : OpenClaim := { program := "ytdhjigaocamglaadoor", sum := "ebcbc4db7ef40bf7fcbea933858138e15f2b17616d32a4c4cb993852e1bac952", func := "theorbo/theorbolaw02.PieceBars", spec := "pieceBars", unfollowed := true, recurses := true, named := ["theorbo/piece.signs"], apart := false, laid := [("theorbo/piece.signs", laid_theorbo_piece_signs)], narrowed := true }
def PieceBarsUptoSaid : Prop := pieceBarsUptoRow.holds Tryd.pinned (OpenSpec.upto pieceBarsSpec)

/-- 'theorbolaw02.PieceValid', WHERE WHAT IT READS IS OF BULK AT MOST 1048576: true; the input reads as it did. -/
def pieceValidUptoRow : OpenClaim := { program := "ytdhjigaocamglaadoor", sum := "ebcbc4db7ef40bf7fcbea933858138e15f2b17616d32a4c4cb993852e1bac952", func := "theorbo/theorbolaw02.PieceValid", spec := "pieceValid", unfollowed := true, recurses := true, named := ["theorbo/piece.signs"], apart := false, laid := [("theorbo/piece.signs", laid_theorbo_piece_signs)], narrowed := true }
def PieceValidUptoSaid : Prop := pieceValidUptoRow.holds Tryd.pinned (OpenSpec.upto pieceValidSpec)

/-- 'theorbotop.TopRewrites', WHERE WHAT IT READS IS OF BULK AT MOST 1048576: true; the input reads as it did. -/
def topRewritesUptoRow : OpenClaim := { program := "ytdhjigaocamglaadoor", sum := "ebcbc4db7ef40bf7fcbea933858138e15f2b17616d32a4c4cb993852e1bac952", func := "theorbo/theorbotop.TopRewrites", spec := "topRewrites", unfollowed := true, recurses := true, named := ["theorbo/piece.signs"], apart := false, laid := [("theorbo/piece.signs", laid_theorbo_piece_signs)], narrowed := true }
def TopRewritesUptoSaid : Prop := topRewritesUptoRow.holds Tryd.pinned (OpenSpec.upto topRewritesSpec)

end Rows
end Go.Proofs.YtdhjigaocamglaaDoor
