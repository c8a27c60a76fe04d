/-
  NARROWER THAN 'FOR EVERY INPUT', by the rows' own cells (each row's printed sentence says how): InstrumentRanges: laid · InstrumentStandards: laid · InstrumentFormats: laid · InstrumentParses: laid · PieceTicks: laid · PieceChecks: laid · PieceTimes: laid.
  DERIVED. THE GIVEN ROWS OF THIS SEAT. 7 by the template 'for every input the law returns true; each argument reads behind the call as it read before'; 0 by the template 'total and deterministic' (their statements: YtdaeanjjmbibmaaDoorTotals.lean).
  GIVEN WITH THE SEED: the statements are not yours to turn. If you find one false, say at which input.
  Laid BY PROGRAM, IN A SANDBOX (cutbox-rows.mjs): the forced cells as the released guide's own fill.sh prints them over the translation cae96f0c3cb17faa… (all of the seat's roots in one cut). By AI agents, Wed Nov 11 2026. No macro, syntax, notation, axiom, sorry.
-/
import Derived.Test.YtdaeanjjmbibmaaDoorChecked
import GoSem.PinnedTables
import GoSem.Claim
import GoSem.ClaimJoined
import GoSem.ClaimMapViews
import Derived.JoinedTies
import Derived.KernelRfl
namespace Go.Proofs.YtdaeanjjmbibmaaDoor
/- THE CELL 'sum', in the pinned program and in every row, IS THE sha256 OF THE DUMP (.gsa) THAT YtdaeanjjmbibmaaDoorProg.lean LOADS. Nothing in Lean hashes anything: it is a label: what it is worth is what the hold of that sum in a sandbox is worth. -/
noncomputable def Tryd.pinned : Pinned := { name := "ytdaeanjjmbibmaadoor", sum := "cae96f0c3cb17faad1f2091570860357357e900f0d3c35dae547c4f0c8c74b30", checked := Tryd.checked }
namespace Rows
def none {H : Type} : Left H := { results := [], args := [] }

/- WHAT THE LISTED PACKAGE-LEVEL VARIABLES READ AS WHEN THE CALL BEGINS. Each datum BY PROGRAM (the guide's laid-datum.mjs) off the statement by which the dump's own 'gosem.cut.vars' lays the variable. In a bare row this is a premise. The card (YtdaeanjjmbibmaaDoorCards.lean) ties it to the program's text. -/
def laid_unicode_utf8_acceptRanges {H : Type} : DataW H := .agg [.agg [.lit (.int .u8 128), .lit (.int .u8 191)], .agg [.lit (.int .u8 160), .lit (.int .u8 191)], .agg [.lit (.int .u8 128), .lit (.int .u8 159)], .agg [.lit (.int .u8 144), .lit (.int .u8 191)], .agg [.lit (.int .u8 128), .lit (.int .u8 143)], .agg [.lit (.int .u8 0), .lit (.int .u8 0)], .agg [.lit (.int .u8 0), .lit (.int .u8 0)], .agg [.lit (.int .u8 0), .lit (.int .u8 0)], .agg [.lit (.int .u8 0), .lit (.int .u8 0)], .agg [.lit (.int .u8 0), .lit (.int .u8 0)], .agg [.lit (.int .u8 0), .lit (.int .u8 0)], .agg [.lit (.int .u8 0), .lit (.int .u8 0)], .agg [.lit (.int .u8 0), .lit (.int .u8 0)], .agg [.lit (.int .u8 0), .lit (.int .u8 0)], .agg [.lit (.int .u8 0), .lit (.int .u8 0)], .agg [.lit (.int .u8 0), .lit (.int .u8 0)]]
def laid_theorbo_instrument_letters {H : Type} : DataW H := .agg [.agg [.lit (.string [67]), .lit (.int .i64 0), .lit (.int .i64 0)], .agg [.lit (.string [68]), .lit (.int .i64 2), .lit (.int .i64 2)], .agg [.lit (.string [69]), .lit (.int .i64 4), .lit (.int .i64 4)], .agg [.lit (.string [70]), .lit (.int .i64 5), .lit (.int .i64 (-1))], .agg [.lit (.string [71]), .lit (.int .i64 7), .lit (.int .i64 1)], .agg [.lit (.string [65]), .lit (.int .i64 9), .lit (.int .i64 3)], .agg [.lit (.string [66]), .lit (.int .i64 11), .lit (.int .i64 5)]]
def laid_theorbo_instrument_standards {H : Type} : DataW H := .agg [.agg [.lit (.string [108, 117, 116, 101, 54]), .lit (.string [71, 52, 47, 56, 32, 68, 52, 47, 56, 32, 65, 51, 47, 56, 32, 70, 51, 47, 56, 43, 32, 67, 51, 47, 56, 43, 32, 71, 50, 47, 56, 43, 32, 58, 32, 49, 32, 50, 32, 51, 32, 52, 32, 53, 32, 54, 32, 55, 32, 56])], .agg [.lit (.string [108, 117, 116, 101, 55]), .lit (.string [71, 52, 47, 56, 32, 68, 52, 47, 56, 32, 65, 51, 47, 56, 32, 70, 51, 47, 56, 43, 32, 67, 51, 47, 56, 43, 32, 71, 50, 47, 56, 43, 32, 68, 50, 47, 56, 43, 32, 58, 32, 49, 32, 50, 32, 51, 32, 52, 32, 53, 32, 54, 32, 55, 32, 56])], .agg [.lit (.string [108, 117, 116, 101, 49, 48]), .lit (.string [71, 52, 47, 56, 32, 68, 52, 47, 56, 32, 65, 51, 47, 56, 32, 70, 51, 47, 56, 32, 67, 51, 47, 56, 43, 32, 71, 50, 47, 56, 43, 32, 70, 50, 47, 56, 43, 32, 69, 98, 50, 47, 56, 43, 32, 68, 50, 47, 56, 43, 32, 67, 50, 47, 56, 43, 32, 58, 32, 49, 32, 50, 32, 51, 32, 52, 32, 53, 32, 54, 32, 55, 32, 56])], .agg [.lit (.string [98, 97, 114, 111, 113, 117, 101, 49, 51]), .lit (.string [70, 52, 47, 57, 32, 68, 52, 47, 57, 32, 65, 51, 47, 57, 32, 70, 51, 47, 57, 32, 68, 51, 47, 57, 32, 65, 50, 47, 57, 43, 32, 71, 50, 47, 57, 43, 32, 70, 50, 47, 57, 43, 32, 69, 50, 47, 48, 43, 32, 68, 50, 47, 48, 43, 32, 67, 50, 47, 48, 43, 32, 66, 49, 47, 48, 43, 32, 65, 49, 47, 48, 43, 32, 58, 32, 49, 32, 50, 32, 51, 32, 52, 32, 53, 32, 54, 32, 55, 32, 56, 32, 57])], .agg [.lit (.string [116, 104, 101, 111, 114, 98, 111, 49, 52]), .lit (.string [65, 51, 47, 56, 32, 69, 51, 47, 56, 32, 66, 51, 47, 56, 32, 71, 51, 47, 56, 32, 68, 51, 47, 56, 32, 65, 50, 47, 56, 32, 71, 50, 47, 48, 32, 70, 50, 47, 48, 32, 69, 50, 47, 48, 32, 68, 50, 47, 48, 32, 67, 50, 47, 48, 32, 66, 49, 47, 48, 32, 65, 49, 47, 48, 32, 71, 49, 47, 48, 32, 58, 32, 49, 32, 50, 32, 51, 32, 52, 32, 53, 32, 54, 32, 55, 32, 56])], .agg [.lit (.string [118, 105, 104, 117, 101, 108, 97, 54]), .lit (.string [71, 52, 47, 49, 48, 32, 68, 52, 47, 49, 48, 32, 65, 51, 47, 49, 48, 32, 70, 51, 47, 49, 48, 32, 67, 51, 47, 49, 48, 32, 71, 50, 47, 49, 48, 32, 58, 32, 49, 32, 50, 32, 51, 32, 52, 32, 53, 32, 54, 32, 55, 32, 56, 32, 57, 32, 49, 48])], .agg [.lit (.string [103, 117, 105, 116, 97, 114, 52]), .lit (.string [65, 52, 47, 56, 32, 69, 52, 47, 56, 32, 67, 52, 47, 56, 32, 71, 51, 47, 56, 43, 32, 58, 32, 49, 32, 50, 32, 51, 32, 52, 32, 53, 32, 54, 32, 55, 32, 56])], .agg [.lit (.string [103, 117, 105, 116, 97, 114, 53]), .lit (.string [69, 52, 47, 56, 32, 66, 51, 47, 56, 32, 71, 51, 47, 56, 32, 68, 52, 47, 56, 32, 65, 51, 47, 56, 32, 58, 32, 49, 32, 50, 32, 51, 32, 52, 32, 53, 32, 54, 32, 55, 32, 56])], .agg [.lit (.string [99, 105, 116, 116, 101, 114, 110, 52]), .lit (.string [69, 52, 47, 57, 32, 68, 52, 47, 57, 32, 71, 51, 47, 57, 32, 66, 51, 47, 57, 32, 58, 32, 50, 32, 51, 32, 52, 32, 53, 32, 55, 32, 57, 32, 49, 48, 32, 49, 49, 32, 49, 50])]]
/-- One of Go's own tables, pinned by name: the form's constant. -/
def laid_unicode_utf8_first : DataW Unit := Go.Pinned.utf8First
def laid_math_bits_deBruijn32tab {H : Type} : DataW H := .agg [.lit (.int .u8 0), .lit (.int .u8 1), .lit (.int .u8 28), .lit (.int .u8 2), .lit (.int .u8 29), .lit (.int .u8 14), .lit (.int .u8 24), .lit (.int .u8 3), .lit (.int .u8 30), .lit (.int .u8 22), .lit (.int .u8 20), .lit (.int .u8 15), .lit (.int .u8 25), .lit (.int .u8 17), .lit (.int .u8 4), .lit (.int .u8 8), .lit (.int .u8 31), .lit (.int .u8 27), .lit (.int .u8 13), .lit (.int .u8 23), .lit (.int .u8 21), .lit (.int .u8 19), .lit (.int .u8 16), .lit (.int .u8 7), .lit (.int .u8 26), .lit (.int .u8 12), .lit (.int .u8 18), .lit (.int .u8 6), .lit (.int .u8 11), .lit (.int .u8 5), .lit (.int .u8 10), .lit (.int .u8 9)]
def laid_math_bits_deBruijn64tab {H : Type} : DataW H := .agg [.lit (.int .u8 0), .lit (.int .u8 1), .lit (.int .u8 56), .lit (.int .u8 2), .lit (.int .u8 57), .lit (.int .u8 49), .lit (.int .u8 28), .lit (.int .u8 3), .lit (.int .u8 61), .lit (.int .u8 58), .lit (.int .u8 42), .lit (.int .u8 50), .lit (.int .u8 38), .lit (.int .u8 29), .lit (.int .u8 17), .lit (.int .u8 4), .lit (.int .u8 62), .lit (.int .u8 47), .lit (.int .u8 59), .lit (.int .u8 36), .lit (.int .u8 45), .lit (.int .u8 43), .lit (.int .u8 51), .lit (.int .u8 22), .lit (.int .u8 53), .lit (.int .u8 39), .lit (.int .u8 33), .lit (.int .u8 30), .lit (.int .u8 24), .lit (.int .u8 18), .lit (.int .u8 12), .lit (.int .u8 5), .lit (.int .u8 63), .lit (.int .u8 55), .lit (.int .u8 48), .lit (.int .u8 27), .lit (.int .u8 60), .lit (.int .u8 41), .lit (.int .u8 37), .lit (.int .u8 16), .lit (.int .u8 46), .lit (.int .u8 35), .lit (.int .u8 44), .lit (.int .u8 21), .lit (.int .u8 52), .lit (.int .u8 32), .lit (.int .u8 23), .lit (.int .u8 11), .lit (.int .u8 54), .lit (.int .u8 26), .lit (.int .u8 40), .lit (.int .u8 15), .lit (.int .u8 34), .lit (.int .u8 20), .lit (.int .u8 31), .lit (.int .u8 10), .lit (.int .u8 25), .lit (.int .u8 14), .lit (.int .u8 19), .lit (.int .u8 9), .lit (.int .u8 13), .lit (.int .u8 8), .lit (.int .u8 7), .lit (.int .u8 6)]
def laid_internal_strconv_uint64pow10 {H : Type} : DataW H := .agg [.lit (.int .u64 1), .lit (.int .u64 10), .lit (.int .u64 100), .lit (.int .u64 1000), .lit (.int .u64 10000), .lit (.int .u64 100000), .lit (.int .u64 1000000), .lit (.int .u64 10000000), .lit (.int .u64 100000000), .lit (.int .u64 1000000000), .lit (.int .u64 10000000000), .lit (.int .u64 100000000000), .lit (.int .u64 1000000000000), .lit (.int .u64 10000000000000), .lit (.int .u64 100000000000000), .lit (.int .u64 1000000000000000), .lit (.int .u64 10000000000000000), .lit (.int .u64 100000000000000000), .lit (.int .u64 1000000000000000000), .lit (.int .u64 10000000000000000000)]
def laid_theorbo_piece_signs {H : Type} : DataW H := .agg [.agg [.lit (.int .i64 1), .lit (.bool true), .lit (.bool false)], .agg [.lit (.int .i64 1), .lit (.bool false), .lit (.bool false)], .agg [.lit (.int .i64 2), .lit (.bool true), .lit (.bool false)], .agg [.lit (.int .i64 1), .lit (.bool false), .lit (.bool true)], .agg [.lit (.int .i64 2), .lit (.bool false), .lit (.bool false)], .agg [.lit (.int .i64 3), .lit (.bool true), .lit (.bool false)], .agg [.lit (.int .i64 2), .lit (.bool false), .lit (.bool true)], .agg [.lit (.int .i64 3), .lit (.bool false), .lit (.bool false)], .agg [.lit (.int .i64 4), .lit (.bool true), .lit (.bool false)], .agg [.lit (.int .i64 3), .lit (.bool false), .lit (.bool true)], .agg [.lit (.int .i64 4), .lit (.bool false), .lit (.bool false)], .agg [.lit (.int .i64 5), .lit (.bool true), .lit (.bool false)], .agg [.lit (.int .i64 4), .lit (.bool false), .lit (.bool true)], .agg [.lit (.int .i64 5), .lit (.bool false), .lit (.bool false)], .agg [.lit (.int .i64 6), .lit (.bool true), .lit (.bool false)], .agg [.lit (.int .i64 5), .lit (.bool false), .lit (.bool true)], .agg [.lit (.int .i64 6), .lit (.bool false), .lit (.bool false)], .agg [.lit (.int .i64 7), .lit (.bool true), .lit (.bool false)], .agg [.lit (.int .i64 6), .lit (.bool false), .lit (.bool true)], .agg [.lit (.int .i64 7), .lit (.bool false), .lit (.bool false)], .agg [.lit (.int .i64 7), .lit (.bool false), .lit (.bool true)]]

/-- 'theorbolaw01.InstrumentRanges': WHATEVER THE INPUT: true; the input reads as it did. -/
def instrumentRangesSpec : ChangeSpec := { name := "instrumentRanges", fn := fun _ => fun
  | [d] => { results := [.lit (.bool true)], args := [d] }
  | _ => none }
def instrumentRangesRow : OpenClaim := { program := "ytdaeanjjmbibmaadoor", sum := "cae96f0c3cb17faad1f2091570860357357e900f0d3c35dae547c4f0c8c74b30", func := "theorbo/theorbolaw01.InstrumentRanges", spec := "instrumentRanges", inPlace := ["internal/bytealg.CountString", "internal/bytealg.IndexByteString", "internal/bytealg.IndexString"], unfollowed := true, recurses := true, named := ["theorbo/instrument.standards", "unicode/utf8.first", "unicode/utf8.acceptRanges", "internal/bytealg.MaxLen", "theorbo/instrument.letters"], apart := false, laid := [("unicode/utf8.acceptRanges", laid_unicode_utf8_acceptRanges), ("theorbo/instrument.letters", laid_theorbo_instrument_letters), ("theorbo/instrument.standards", laid_theorbo_instrument_standards), ("unicode/utf8.first", laid_unicode_utf8_first)] }
def InstrumentRangesSaid : Prop := instrumentRangesRow.holds Tryd.pinned (OpenSpec.ofChange instrumentRangesSpec)

/-- ITS FALSE NEIGHBOUR: 'it returns false'. Refute it at one input. -/
def instrumentRangesWrong : ChangeSpec := { name := "instrumentRanges", fn := fun _ => fun
  | [d] => { results := [.lit (.bool false)], args := [d] }
  | _ => none }
def InstrumentRangesWrongFalsely : Prop := instrumentRangesRow.holds Tryd.pinned (OpenSpec.ofChange instrumentRangesWrong)

/-- 'theorbolaw01.InstrumentStandards': WHATEVER THE INPUT: true; the input reads as it did. -/
def instrumentStandardsSpec : ChangeSpec := { name := "instrumentStandards", fn := fun _ => fun
  | [d] => { results := [.lit (.bool true)], args := [d] }
  | _ => none }
def instrumentStandardsRow : OpenClaim := { program := "ytdaeanjjmbibmaadoor", sum := "cae96f0c3cb17faad1f2091570860357357e900f0d3c35dae547c4f0c8c74b30", func := "theorbo/theorbolaw01.InstrumentStandards", spec := "instrumentStandards", inPlace := ["internal/bytealg.CountString", "internal/bytealg.IndexByteString", "internal/bytealg.IndexString"], named := ["theorbo/instrument.standards", "unicode/utf8.first", "unicode/utf8.acceptRanges", "internal/bytealg.MaxLen", "theorbo/instrument.letters"], apart := false, laid := [("unicode/utf8.acceptRanges", laid_unicode_utf8_acceptRanges), ("theorbo/instrument.letters", laid_theorbo_instrument_letters), ("theorbo/instrument.standards", laid_theorbo_instrument_standards), ("unicode/utf8.first", laid_unicode_utf8_first)] }
def InstrumentStandardsSaid : Prop := instrumentStandardsRow.holds Tryd.pinned (OpenSpec.ofChange instrumentStandardsSpec)

/-- ITS FALSE NEIGHBOUR: 'it returns false'. Refute it at one input. -/
def instrumentStandardsWrong : ChangeSpec := { name := "instrumentStandards", fn := fun _ => fun
  | [d] => { results := [.lit (.bool false)], args := [d] }
  | _ => none }
def InstrumentStandardsWrongFalsely : Prop := instrumentStandardsRow.holds Tryd.pinned (OpenSpec.ofChange instrumentStandardsWrong)

/-- 'theorbolaw01.InstrumentFormats': WHATEVER THE INPUT: true; the input reads as it did. -/
def instrumentFormatsSpec : ChangeSpec := { name := "instrumentFormats", fn := fun _ => fun
  | [d] => { results := [.lit (.bool true)], args := [d] }
  | _ => none }
def instrumentFormatsRow : OpenClaim := { program := "ytdaeanjjmbibmaadoor", sum := "cae96f0c3cb17faad1f2091570860357357e900f0d3c35dae547c4f0c8c74b30", func := "theorbo/theorbolaw01.InstrumentFormats", spec := "instrumentFormats", inPlace := ["internal/bytealg.CountString", "internal/bytealg.IndexByteString", "internal/bytealg.IndexString", "internal/abi.NoEscape", "internal/bytealg.MakeNoZero"], recurses := true, named := ["theorbo/instrument.standards", "unicode/utf8.first", "unicode/utf8.acceptRanges", "internal/bytealg.MaxLen", "theorbo/instrument.letters", "internal/strconv.uint64pow10", "math/bits.deBruijn32tab", "math/bits.deBruijn64tab"], apart := false, laid := [("math/bits.deBruijn32tab", laid_math_bits_deBruijn32tab), ("math/bits.deBruijn64tab", laid_math_bits_deBruijn64tab), ("internal/strconv.uint64pow10", laid_internal_strconv_uint64pow10), ("unicode/utf8.acceptRanges", laid_unicode_utf8_acceptRanges), ("theorbo/instrument.letters", laid_theorbo_instrument_letters), ("theorbo/instrument.standards", laid_theorbo_instrument_standards), ("unicode/utf8.first", laid_unicode_utf8_first)] }
def InstrumentFormatsSaid : Prop := instrumentFormatsRow.holds Tryd.pinned (OpenSpec.ofChange instrumentFormatsSpec)

/-- ITS FALSE NEIGHBOUR: 'it returns false'. Refute it at one input. -/
def instrumentFormatsWrong : ChangeSpec := { name := "instrumentFormats", fn := fun _ => fun
  | [d] => { results := [.lit (.bool false)], args := [d] }
  | _ => none }
def InstrumentFormatsWrongFalsely : Prop := instrumentFormatsRow.holds Tryd.pinned (OpenSpec.ofChange instrumentFormatsWrong)

/-- 'theorbolaw01.InstrumentParses': WHATEVER THE INPUT: true; the input reads as it did. -/
def instrumentParsesSpec : ChangeSpec := { name := "instrumentParses", fn := fun _ => fun
  | [d] => { results := [.lit (.bool true)], args := [d] }
  | _ => none }
def instrumentParsesRow : OpenClaim := { program := "ytdaeanjjmbibmaadoor", sum := "cae96f0c3cb17faad1f2091570860357357e900f0d3c35dae547c4f0c8c74b30", func := "theorbo/theorbolaw01.InstrumentParses", spec := "instrumentParses", inPlace := ["internal/bytealg.CountString", "internal/bytealg.IndexByteString", "internal/bytealg.IndexString"], named := ["theorbo/instrument.standards", "unicode/utf8.first", "unicode/utf8.acceptRanges", "internal/bytealg.MaxLen", "theorbo/instrument.letters"], apart := false, laid := [("unicode/utf8.acceptRanges", laid_unicode_utf8_acceptRanges), ("theorbo/instrument.letters", laid_theorbo_instrument_letters), ("theorbo/instrument.standards", laid_theorbo_instrument_standards), ("unicode/utf8.first", laid_unicode_utf8_first)] }
def InstrumentParsesSaid : Prop := instrumentParsesRow.holds Tryd.pinned (OpenSpec.ofChange instrumentParsesSpec)

/-- ITS FALSE NEIGHBOUR: 'it returns false'. Refute it at one input. -/
def instrumentParsesWrong : ChangeSpec := { name := "instrumentParses", fn := fun _ => fun
  | [d] => { results := [.lit (.bool false)], args := [d] }
  | _ => none }
def InstrumentParsesWrongFalsely : Prop := instrumentParsesRow.holds Tryd.pinned (OpenSpec.ofChange instrumentParsesWrong)

/-- 'theorbolaw02.PieceTicks': WHATEVER THE INPUT: true; the input reads as it did. -/
def pieceTicksSpec : ChangeSpec := { name := "pieceTicks", fn := fun _ => fun
  | [d] => { results := [.lit (.bool true)], args := [d] }
  | _ => none }
def pieceTicksRow : OpenClaim := { program := "ytdaeanjjmbibmaadoor", sum := "cae96f0c3cb17faad1f2091570860357357e900f0d3c35dae547c4f0c8c74b30", func := "theorbo/theorbolaw02.PieceTicks", spec := "pieceTicks", unfollowed := true, recurses := true, named := ["theorbo/piece.signs"], apart := false, laid := [("theorbo/piece.signs", laid_theorbo_piece_signs)] }
def PieceTicksSaid : Prop := pieceTicksRow.holds Tryd.pinned (OpenSpec.ofChange pieceTicksSpec)

/-- ITS FALSE NEIGHBOUR: 'it returns false'. Refute it at one input. -/
def pieceTicksWrong : ChangeSpec := { name := "pieceTicks", fn := fun _ => fun
  | [d] => { results := [.lit (.bool false)], args := [d] }
  | _ => none }
def PieceTicksWrongFalsely : Prop := pieceTicksRow.holds Tryd.pinned (OpenSpec.ofChange pieceTicksWrong)

/-- 'theorbolaw02.PieceChecks': WHATEVER THE INPUT: true; the input reads as it did. -/
def pieceChecksSpec : ChangeSpec := { name := "pieceChecks", fn := fun _ => fun
  | [d1, d2, d3] => { results := [.lit (.bool true)], args := [d1, d2, d3] }
  | _ => none }
def pieceChecksRow : OpenClaim := { program := "ytdaeanjjmbibmaadoor", sum := "cae96f0c3cb17faad1f2091570860357357e900f0d3c35dae547c4f0c8c74b30", func := "theorbo/theorbolaw02.PieceChecks", spec := "pieceChecks", unfollowed := true, recurses := true, named := ["theorbo/piece.signs"], apart := false, laid := [("theorbo/piece.signs", laid_theorbo_piece_signs)] }
def PieceChecksSaid : Prop := pieceChecksRow.holds Tryd.pinned (OpenSpec.ofChange pieceChecksSpec)

/-- ITS FALSE NEIGHBOUR: 'it returns false'. Refute it at one input. -/
def pieceChecksWrong : ChangeSpec := { name := "pieceChecks", fn := fun _ => fun
  | [d1, d2, d3] => { results := [.lit (.bool false)], args := [d1, d2, d3] }
  | _ => none }
def PieceChecksWrongFalsely : Prop := pieceChecksRow.holds Tryd.pinned (OpenSpec.ofChange pieceChecksWrong)

/-- 'theorbolaw02.PieceTimes': WHATEVER THE INPUT: true; the input reads as it did. -/
def pieceTimesSpec : ChangeSpec := { name := "pieceTimes", fn := fun _ => fun
  | [d] => { results := [.lit (.bool true)], args := [d] }
  | _ => none }
def pieceTimesRow : OpenClaim := { program := "ytdaeanjjmbibmaadoor", sum := "cae96f0c3cb17faad1f2091570860357357e900f0d3c35dae547c4f0c8c74b30", func := "theorbo/theorbolaw02.PieceTimes", spec := "pieceTimes", unfollowed := true, recurses := true, named := ["theorbo/piece.signs"], apart := false, laid := [("theorbo/piece.signs", laid_theorbo_piece_signs)] }
def PieceTimesSaid : Prop := pieceTimesRow.holds Tryd.pinned (OpenSpec.ofChange pieceTimesSpec)

/-- ITS FALSE NEIGHBOUR: 'it returns false'. Refute it at one input. -/
def pieceTimesWrong : ChangeSpec := { name := "pieceTimes", fn := fun _ => fun
  | [d] => { results := [.lit (.bool false)], args := [d] }
  | _ => none }
def PieceTimesWrongFalsely : Prop := pieceTimesRow.holds Tryd.pinned (OpenSpec.ofChange pieceTimesWrong)

/- THE SECOND FORM. 'bulk': how many values and letters a reading holds, each counted each time it is reached (what is shared counts as often as it is met; a slice's spare places count too). A statement '..UptoSaid' is the law's where the arguments, and the package variables that the reading takes, are together of bulk at most 1048576: NARROWER than '..Said'. Prove '..Said' where nothing that the law and all that it calls make is longer than what came in: it says more and counts as full. Else prove '..UptoSaid'. A law counts once. -/
mutual
def uptoBulk {H : Type} : DataW H → Nat
  | .lit (.string bytes) => bytes.length + 1
  | .lit _ => 1
  | .nil => 1
  | .ptr d => uptoBulk d + 1
  | .slice elems spare => uptoBulkAll elems + uptoBulkAll spare + 1
  | .agg parts => uptoBulkAll parts + 1
  | .iface _ d => uptoBulk d + 1
  | .map entries => uptoBulkEntries entries + 1
  | .held _ => 1
def uptoBulkAll {H : Type} : List (DataW H) → Nat
  | [] => 0
  | d :: r => uptoBulk d + uptoBulkAll r
def uptoBulkEntries {H : Type} : List (Lit × DataW H) → Nat
  | [] => 0
  | x :: r => uptoBulkEntry x + uptoBulkEntries r
def uptoBulkEntry {H : Type} : Lit × DataW H → Nat
  | (.string bytes, d) => bytes.length + uptoBulk d + 1
  | (_, d) => uptoBulk d + 1
 end
def uptoSmall : (H : Type) → List (DataW H) → Bool := fun _ ds => decide (uptoBulkAll ds ≤ 1048576)
def OpenSpec.upto (s : _root_.Go.ChangeSpec) : _root_.Go.OpenSpec := { _root_.Go.OpenSpec.ofChange s with cond := some uptoSmall }

/-- 'theorbolaw01.InstrumentRanges', WHERE WHAT IT READS IS OF BULK AT MOST 1048576: true; the input reads as it did. -/
def instrumentRangesUptoRow : OpenClaim := { program := "ytdaeanjjmbibmaadoor", sum := "cae96f0c3cb17faad1f2091570860357357e900f0d3c35dae547c4f0c8c74b30", func := "theorbo/theorbolaw01.InstrumentRanges", spec := "instrumentRanges", inPlace := ["internal/bytealg.CountString", "internal/bytealg.IndexByteString", "internal/bytealg.IndexString"], unfollowed := true, recurses := true, named := ["theorbo/instrument.standards", "unicode/utf8.first", "unicode/utf8.acceptRanges", "internal/bytealg.MaxLen", "theorbo/instrument.letters"], apart := false, laid := [("unicode/utf8.acceptRanges", laid_unicode_utf8_acceptRanges), ("theorbo/instrument.letters", laid_theorbo_instrument_letters), ("theorbo/instrument.standards", laid_theorbo_instrument_standards), ("unicode/utf8.first", laid_unicode_utf8_first)], narrowed := true }
def InstrumentRangesUptoSaid : Prop := instrumentRangesUptoRow.holds Tryd.pinned (OpenSpec.upto instrumentRangesSpec)

/-- 'theorbolaw01.InstrumentStandards', WHERE WHAT IT READS IS OF BULK AT MOST 1048576: true; the input reads as it did. -/
def instrumentStandardsUptoRow : OpenClaim := { program := "ytdaeanjjmbibmaadoor", sum := "cae96f0c3cb17faad1f2091570860357357e900f0d3c35dae547c4f0c8c74b30", func := "theorbo/theorbolaw01.InstrumentStandards", spec := "instrumentStandards", inPlace := ["internal/bytealg.CountString", "internal/bytealg.IndexByteString", "internal/bytealg.IndexString"], named := ["theorbo/instrument.standards", "unicode/utf8.first", "unicode/utf8.acceptRanges", "internal/bytealg.MaxLen", "theorbo/instrument.letters"], apart := false, laid := [("unicode/utf8.acceptRanges", laid_unicode_utf8_acceptRanges), ("theorbo/instrument.letters", laid_theorbo_instrument_letters), ("theorbo/instrument.standards", laid_theorbo_instrument_standards), ("unicode/utf8.first", laid_unicode_utf8_first)], narrowed := true }
def InstrumentStandardsUptoSaid : Prop := instrumentStandardsUptoRow.holds Tryd.pinned (OpenSpec.upto instrumentStandardsSpec)

/-- 'theorbolaw01.InstrumentFormats', WHERE WHAT IT READS IS OF BULK AT MOST 1048576: true; the input reads as it did. -/
def instrumentFormatsUptoRow : OpenClaim := { program := "ytdaeanjjmbibmaadoor", sum := "cae96f0c3cb17faad1f2091570860357357e900f0d3c35dae547c4f0c8c74b30", func := "theorbo/theorbolaw01.InstrumentFormats", spec := "instrumentFormats", inPlace := ["internal/bytealg.CountString", "internal/bytealg.IndexByteString", "internal/bytealg.IndexString", "internal/abi.NoEscape", "internal/bytealg.MakeNoZero"], recurses := true, named := ["theorbo/instrument.standards", "unicode/utf8.first", "unicode/utf8.acceptRanges", "internal/bytealg.MaxLen", "theorbo/instrument.letters", "internal/strconv.uint64pow10", "math/bits.deBruijn32tab", "math/bits.deBruijn64tab"], apart := false, laid := [("math/bits.deBruijn32tab", laid_math_bits_deBruijn32tab), ("math/bits.deBruijn64tab", laid_math_bits_deBruijn64tab), ("internal/strconv.uint64pow10", laid_internal_strconv_uint64pow10), ("unicode/utf8.acceptRanges", laid_unicode_utf8_acceptRanges), ("theorbo/instrument.letters", laid_theorbo_instrument_letters), ("theorbo/instrument.standards", laid_theorbo_instrument_standards), ("unicode/utf8.first", laid_unicode_utf8_first)], narrowed := true }
def InstrumentFormatsUptoSaid : Prop := instrumentFormatsUptoRow.holds Tryd.pinned (OpenSpec.upto instrumentFormatsSpec)

/-- 'theorbolaw01.InstrumentParses', WHERE WHAT IT READS IS OF BULK AT MOST 1048576: true; the input reads as it did. -/
def instrumentParsesUptoRow : OpenClaim := { program := "ytdaeanjjmbibmaadoor", sum := "cae96f0c3cb17faad1f2091570860357357e900f0d3c35dae547c4f0c8c74b30", func := "theorbo/theorbolaw01.InstrumentParses", spec := "instrumentParses", inPlace := ["internal/bytealg.CountString", "internal/bytealg.IndexByteString", "internal/bytealg.IndexString"], named := ["theorbo/instrument.standards", "unicode/utf8.first", "unicode/utf8.acceptRanges", "internal/bytealg.MaxLen", "theorbo/instrument.letters"], apart := false, laid := [("unicode/utf8.acceptRanges", laid_unicode_utf8_acceptRanges), ("theorbo/instrument.letters", laid_theorbo_instrument_letters), ("theorbo/instrument.standards", laid_theorbo_instrument_standards), ("unicode/utf8.first", laid_unicode_utf8_first)], narrowed := true }
def InstrumentParsesUptoSaid : Prop := instrumentParsesUptoRow.holds Tryd.pinned (OpenSpec.upto instrumentParsesSpec)

/-- 'theorbolaw02.PieceTicks', WHERE WHAT IT READS IS OF BULK AT MOST 1048576: true; the input reads as it did. -/
def pieceTicksUptoRow : OpenClaim := { program := "ytdaeanjjmbibmaadoor", sum := "cae96f0c3cb17faad1f2091570860357357e900f0d3c35dae547c4f0c8c74b30", func := "theorbo/theorbolaw02.PieceTicks", spec := "pieceTicks", unfollowed := true, recurses := true, named := ["theorbo/piece.signs"], apart := false, laid := [("theorbo/piece.signs", laid_theorbo_piece_signs)], narrowed := true }
def PieceTicksUptoSaid : Prop := pieceTicksUptoRow.holds Tryd.pinned (OpenSpec.upto pieceTicksSpec)

/-- 'theorbolaw02.PieceChecks', WHERE WHAT IT READS IS OF BULK AT MOST 1048576: true; the input reads as it did. -/
def pieceChecksUptoRow : OpenClaim := { program := "ytdaeanjjmbibmaadoor", sum := "cae96f0c3cb17faad1f2091570860357357e900f0d3c35dae547c4f0c8c74b30", func := "theorbo/theorbolaw02.PieceChecks", spec := "pieceChecks", unfollowed := true, recurses := true, named := ["theorbo/piece.signs"], apart := false, laid := [("theorbo/piece.signs", laid_theorbo_piece_signs)], narrowed := true }
def PieceChecksUptoSaid : Prop := pieceChecksUptoRow.holds Tryd.pinned (OpenSpec.upto pieceChecksSpec)

/-- 'theorbolaw02.PieceTimes', WHERE WHAT IT READS IS OF BULK AT MOST 1048576: true; the input reads as it did. -/
def pieceTimesUptoRow : OpenClaim := { program := "ytdaeanjjmbibmaadoor", sum := "cae96f0c3cb17faad1f2091570860357357e900f0d3c35dae547c4f0c8c74b30", func := "theorbo/theorbolaw02.PieceTimes", spec := "pieceTimes", unfollowed := true, recurses := true, named := ["theorbo/piece.signs"], apart := false, laid := [("theorbo/piece.signs", laid_theorbo_piece_signs)], narrowed := true }
def PieceTimesUptoSaid : Prop := pieceTimesUptoRow.holds Tryd.pinned (OpenSpec.upto pieceTimesSpec)

end Rows
end Go.Proofs.YtdaeanjjmbibmaaDoor
