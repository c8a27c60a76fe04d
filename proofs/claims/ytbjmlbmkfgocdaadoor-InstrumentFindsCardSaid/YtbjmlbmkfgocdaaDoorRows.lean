/-
  NARROWER THAN 'FOR EVERY INPUT', by the rows' own cells (each row's printed sentence says how): InstrumentSpells: laid · InstrumentChecks: laid · InstrumentPlaces: laid · InstrumentFinds: laid · InstrumentRanges: laid · InstrumentTunes: laid · InstrumentTunesBack: laid · InstrumentCapos: laid · InstrumentCapoSounds: laid · InstrumentCapoTwice: laid · InstrumentSame: laid · InstrumentStandards: laid.
  DERIVED. THE GIVEN ROWS OF THIS SEAT. 12 by the template 'for every input the law returns true; each argument reads behind the call as it read before'; 0 by the template 'total and deterministic' (their statements: YtbjmlbmkfgocdaaDoorTotals.lean).
  GIVEN WITH THE SEED: the statements are not yours to turn. If you find one false, say at which input.
  Laid BY PROGRAM, IN A SANDBOX (cutbox-rows.mjs): the forced cells as the released guide's own fill.sh prints them over the translation 12a5e69d4f9b6631… (all of the seat's roots in one cut). By AI agents, Wed Nov 11 2026. No macro, syntax, notation, axiom, sorry.
-/
import Derived.Test.YtbjmlbmkfgocdaaDoorChecked
import GoSem.PinnedTables
import GoSem.Claim
import GoSem.ClaimJoined
import GoSem.ClaimMapViews
import Derived.JoinedTies
import Derived.KernelRfl
namespace Go.Proofs.YtbjmlbmkfgocdaaDoor
/- THE CELL 'sum', in the pinned program and in every row, IS THE sha256 OF THE DUMP (.gsa) THAT YtbjmlbmkfgocdaaDoorProg.lean LOADS. Nothing in Lean hashes anything: it is a label: what it is worth is what the hold of that sum in a sandbox is worth. -/
noncomputable def Tryd.pinned : Pinned := { name := "ytbjmlbmkfgocdaadoor", sum := "12a5e69d4f9b66311c185e3d5ff9df3fcec5bb1c89cc4350919b1030c9c97178", checked := Tryd.checked }
namespace Rows
def none {H : Type} : Left H := { results := [], args := [] }

/- WHAT THE LISTED PACKAGE-LEVEL VARIABLES READ AS WHEN THE CALL BEGINS. Each datum BY PROGRAM (the guide's laid-datum.mjs) off the statement by which the dump's own 'gosem.cut.vars' lays the variable. In a bare row this is a premise. The card (YtbjmlbmkfgocdaaDoorCards.lean) ties it to the program's text. -/
def laid_unicode_utf8_acceptRanges {H : Type} : DataW H := .agg [.agg [.lit (.int .u8 128), .lit (.int .u8 191)], .agg [.lit (.int .u8 160), .lit (.int .u8 191)], .agg [.lit (.int .u8 128), .lit (.int .u8 159)], .agg [.lit (.int .u8 144), .lit (.int .u8 191)], .agg [.lit (.int .u8 128), .lit (.int .u8 143)], .agg [.lit (.int .u8 0), .lit (.int .u8 0)], .agg [.lit (.int .u8 0), .lit (.int .u8 0)], .agg [.lit (.int .u8 0), .lit (.int .u8 0)], .agg [.lit (.int .u8 0), .lit (.int .u8 0)], .agg [.lit (.int .u8 0), .lit (.int .u8 0)], .agg [.lit (.int .u8 0), .lit (.int .u8 0)], .agg [.lit (.int .u8 0), .lit (.int .u8 0)], .agg [.lit (.int .u8 0), .lit (.int .u8 0)], .agg [.lit (.int .u8 0), .lit (.int .u8 0)], .agg [.lit (.int .u8 0), .lit (.int .u8 0)], .agg [.lit (.int .u8 0), .lit (.int .u8 0)]]
def laid_theorbo_instrument_letters {H : Type} : DataW H := .agg [.agg [.lit (.string [67]), .lit (.int .i64 0), .lit (.int .i64 0)], .agg [.lit (.string [68]), .lit (.int .i64 2), .lit (.int .i64 2)], .agg [.lit (.string [69]), .lit (.int .i64 4), .lit (.int .i64 4)], .agg [.lit (.string [70]), .lit (.int .i64 5), .lit (.int .i64 (-1))], .agg [.lit (.string [71]), .lit (.int .i64 7), .lit (.int .i64 1)], .agg [.lit (.string [65]), .lit (.int .i64 9), .lit (.int .i64 3)], .agg [.lit (.string [66]), .lit (.int .i64 11), .lit (.int .i64 5)]]
def laid_theorbo_instrument_standards {H : Type} : DataW H := .agg [.agg [.lit (.string [108, 117, 116, 101, 54]), .lit (.string [71, 52, 47, 56, 32, 68, 52, 47, 56, 32, 65, 51, 47, 56, 32, 70, 51, 47, 56, 43, 32, 67, 51, 47, 56, 43, 32, 71, 50, 47, 56, 43, 32, 58, 32, 49, 32, 50, 32, 51, 32, 52, 32, 53, 32, 54, 32, 55, 32, 56])], .agg [.lit (.string [108, 117, 116, 101, 55]), .lit (.string [71, 52, 47, 56, 32, 68, 52, 47, 56, 32, 65, 51, 47, 56, 32, 70, 51, 47, 56, 43, 32, 67, 51, 47, 56, 43, 32, 71, 50, 47, 56, 43, 32, 68, 50, 47, 56, 43, 32, 58, 32, 49, 32, 50, 32, 51, 32, 52, 32, 53, 32, 54, 32, 55, 32, 56])], .agg [.lit (.string [108, 117, 116, 101, 49, 48]), .lit (.string [71, 52, 47, 56, 32, 68, 52, 47, 56, 32, 65, 51, 47, 56, 32, 70, 51, 47, 56, 32, 67, 51, 47, 56, 43, 32, 71, 50, 47, 56, 43, 32, 70, 50, 47, 56, 43, 32, 69, 98, 50, 47, 56, 43, 32, 68, 50, 47, 56, 43, 32, 67, 50, 47, 56, 43, 32, 58, 32, 49, 32, 50, 32, 51, 32, 52, 32, 53, 32, 54, 32, 55, 32, 56])], .agg [.lit (.string [98, 97, 114, 111, 113, 117, 101, 49, 51]), .lit (.string [70, 52, 47, 57, 32, 68, 52, 47, 57, 32, 65, 51, 47, 57, 32, 70, 51, 47, 57, 32, 68, 51, 47, 57, 32, 65, 50, 47, 57, 43, 32, 71, 50, 47, 57, 43, 32, 70, 50, 47, 57, 43, 32, 69, 50, 47, 48, 43, 32, 68, 50, 47, 48, 43, 32, 67, 50, 47, 48, 43, 32, 66, 49, 47, 48, 43, 32, 65, 49, 47, 48, 43, 32, 58, 32, 49, 32, 50, 32, 51, 32, 52, 32, 53, 32, 54, 32, 55, 32, 56, 32, 57])], .agg [.lit (.string [116, 104, 101, 111, 114, 98, 111, 49, 52]), .lit (.string [65, 51, 47, 56, 32, 69, 51, 47, 56, 32, 66, 51, 47, 56, 32, 71, 51, 47, 56, 32, 68, 51, 47, 56, 32, 65, 50, 47, 56, 32, 71, 50, 47, 48, 32, 70, 50, 47, 48, 32, 69, 50, 47, 48, 32, 68, 50, 47, 48, 32, 67, 50, 47, 48, 32, 66, 49, 47, 48, 32, 65, 49, 47, 48, 32, 71, 49, 47, 48, 32, 58, 32, 49, 32, 50, 32, 51, 32, 52, 32, 53, 32, 54, 32, 55, 32, 56])], .agg [.lit (.string [118, 105, 104, 117, 101, 108, 97, 54]), .lit (.string [71, 52, 47, 49, 48, 32, 68, 52, 47, 49, 48, 32, 65, 51, 47, 49, 48, 32, 70, 51, 47, 49, 48, 32, 67, 51, 47, 49, 48, 32, 71, 50, 47, 49, 48, 32, 58, 32, 49, 32, 50, 32, 51, 32, 52, 32, 53, 32, 54, 32, 55, 32, 56, 32, 57, 32, 49, 48])], .agg [.lit (.string [103, 117, 105, 116, 97, 114, 52]), .lit (.string [65, 52, 47, 56, 32, 69, 52, 47, 56, 32, 67, 52, 47, 56, 32, 71, 51, 47, 56, 43, 32, 58, 32, 49, 32, 50, 32, 51, 32, 52, 32, 53, 32, 54, 32, 55, 32, 56])], .agg [.lit (.string [103, 117, 105, 116, 97, 114, 53]), .lit (.string [69, 52, 47, 56, 32, 66, 51, 47, 56, 32, 71, 51, 47, 56, 32, 68, 52, 47, 56, 32, 65, 51, 47, 56, 32, 58, 32, 49, 32, 50, 32, 51, 32, 52, 32, 53, 32, 54, 32, 55, 32, 56])], .agg [.lit (.string [99, 105, 116, 116, 101, 114, 110, 52]), .lit (.string [69, 52, 47, 57, 32, 68, 52, 47, 57, 32, 71, 51, 47, 57, 32, 66, 51, 47, 57, 32, 58, 32, 50, 32, 51, 32, 52, 32, 53, 32, 55, 32, 57, 32, 49, 48, 32, 49, 49, 32, 49, 50])]]
/-- One of Go's own tables, pinned by name: the form's constant. -/
def laid_unicode_utf8_first : DataW Unit := Go.Pinned.utf8First

/-- 'theorbolaw01.InstrumentSpells': WHATEVER THE INPUT: true; the input reads as it did. -/
def instrumentSpellsSpec : ChangeSpec := { name := "instrumentSpells", fn := fun _ => fun
  | [d1, d2] => { results := [.lit (.bool true)], args := [d1, d2] }
  | _ => none }
def instrumentSpellsRow : OpenClaim := { program := "ytbjmlbmkfgocdaadoor", sum := "12a5e69d4f9b66311c185e3d5ff9df3fcec5bb1c89cc4350919b1030c9c97178", func := "theorbo/theorbolaw01.InstrumentSpells", spec := "instrumentSpells", inPlace := ["internal/bytealg.CountString", "internal/bytealg.IndexByteString", "internal/bytealg.IndexString"], named := ["theorbo/instrument.letters", "theorbo/instrument.standards", "unicode/utf8.first", "unicode/utf8.acceptRanges", "internal/bytealg.MaxLen"], apart := false, laid := [("unicode/utf8.acceptRanges", laid_unicode_utf8_acceptRanges), ("theorbo/instrument.letters", laid_theorbo_instrument_letters), ("theorbo/instrument.standards", laid_theorbo_instrument_standards), ("unicode/utf8.first", laid_unicode_utf8_first)] }
def InstrumentSpellsSaid : Prop := instrumentSpellsRow.holds Tryd.pinned (OpenSpec.ofChange instrumentSpellsSpec)

/-- ITS FALSE NEIGHBOUR: 'it returns false'. Refute it at one input. -/
def instrumentSpellsWrong : ChangeSpec := { name := "instrumentSpells", fn := fun _ => fun
  | [d1, d2] => { results := [.lit (.bool false)], args := [d1, d2] }
  | _ => none }
def InstrumentSpellsWrongFalsely : Prop := instrumentSpellsRow.holds Tryd.pinned (OpenSpec.ofChange instrumentSpellsWrong)

/-- 'theorbolaw01.InstrumentChecks': WHATEVER THE INPUT: true; the input reads as it did. -/
def instrumentChecksSpec : ChangeSpec := { name := "instrumentChecks", fn := fun _ => fun
  | [d1, d2] => { results := [.lit (.bool true)], args := [d1, d2] }
  | _ => none }
def instrumentChecksRow : OpenClaim := { program := "ytbjmlbmkfgocdaadoor", sum := "12a5e69d4f9b66311c185e3d5ff9df3fcec5bb1c89cc4350919b1030c9c97178", func := "theorbo/theorbolaw01.InstrumentChecks", spec := "instrumentChecks", inPlace := ["internal/bytealg.CountString", "internal/bytealg.IndexByteString", "internal/bytealg.IndexString"], named := ["theorbo/instrument.standards", "unicode/utf8.first", "unicode/utf8.acceptRanges", "internal/bytealg.MaxLen", "theorbo/instrument.letters"], apart := false, laid := [("unicode/utf8.acceptRanges", laid_unicode_utf8_acceptRanges), ("theorbo/instrument.letters", laid_theorbo_instrument_letters), ("theorbo/instrument.standards", laid_theorbo_instrument_standards), ("unicode/utf8.first", laid_unicode_utf8_first)] }
def InstrumentChecksSaid : Prop := instrumentChecksRow.holds Tryd.pinned (OpenSpec.ofChange instrumentChecksSpec)

/-- ITS FALSE NEIGHBOUR: 'it returns false'. Refute it at one input. -/
def instrumentChecksWrong : ChangeSpec := { name := "instrumentChecks", fn := fun _ => fun
  | [d1, d2] => { results := [.lit (.bool false)], args := [d1, d2] }
  | _ => none }
def InstrumentChecksWrongFalsely : Prop := instrumentChecksRow.holds Tryd.pinned (OpenSpec.ofChange instrumentChecksWrong)

/-- 'theorbolaw01.InstrumentPlaces': WHATEVER THE INPUT: true; the input reads as it did. -/
def instrumentPlacesSpec : ChangeSpec := { name := "instrumentPlaces", fn := fun _ => fun
  | [d1, d2] => { results := [.lit (.bool true)], args := [d1, d2] }
  | _ => none }
def instrumentPlacesRow : OpenClaim := { program := "ytbjmlbmkfgocdaadoor", sum := "12a5e69d4f9b66311c185e3d5ff9df3fcec5bb1c89cc4350919b1030c9c97178", func := "theorbo/theorbolaw01.InstrumentPlaces", spec := "instrumentPlaces", inPlace := ["internal/bytealg.CountString", "internal/bytealg.IndexByteString", "internal/bytealg.IndexString"], named := ["theorbo/instrument.standards", "unicode/utf8.first", "unicode/utf8.acceptRanges", "internal/bytealg.MaxLen", "theorbo/instrument.letters"], apart := false, laid := [("unicode/utf8.acceptRanges", laid_unicode_utf8_acceptRanges), ("theorbo/instrument.letters", laid_theorbo_instrument_letters), ("theorbo/instrument.standards", laid_theorbo_instrument_standards), ("unicode/utf8.first", laid_unicode_utf8_first)] }
def InstrumentPlacesSaid : Prop := instrumentPlacesRow.holds Tryd.pinned (OpenSpec.ofChange instrumentPlacesSpec)

/-- ITS FALSE NEIGHBOUR: 'it returns false'. Refute it at one input. -/
def instrumentPlacesWrong : ChangeSpec := { name := "instrumentPlaces", fn := fun _ => fun
  | [d1, d2] => { results := [.lit (.bool false)], args := [d1, d2] }
  | _ => none }
def InstrumentPlacesWrongFalsely : Prop := instrumentPlacesRow.holds Tryd.pinned (OpenSpec.ofChange instrumentPlacesWrong)

/-- 'theorbolaw01.InstrumentFinds': WHATEVER THE INPUT: true; the input reads as it did. -/
def instrumentFindsSpec : ChangeSpec := { name := "instrumentFinds", fn := fun _ => fun
  | [d1, d2] => { results := [.lit (.bool true)], args := [d1, d2] }
  | _ => none }
def instrumentFindsRow : OpenClaim := { program := "ytbjmlbmkfgocdaadoor", sum := "12a5e69d4f9b66311c185e3d5ff9df3fcec5bb1c89cc4350919b1030c9c97178", func := "theorbo/theorbolaw01.InstrumentFinds", spec := "instrumentFinds", inPlace := ["internal/bytealg.CountString", "internal/bytealg.IndexByteString", "internal/bytealg.IndexString"], named := ["theorbo/instrument.standards", "unicode/utf8.first", "unicode/utf8.acceptRanges", "internal/bytealg.MaxLen", "theorbo/instrument.letters"], apart := false, laid := [("unicode/utf8.acceptRanges", laid_unicode_utf8_acceptRanges), ("theorbo/instrument.letters", laid_theorbo_instrument_letters), ("theorbo/instrument.standards", laid_theorbo_instrument_standards), ("unicode/utf8.first", laid_unicode_utf8_first)] }
def InstrumentFindsSaid : Prop := instrumentFindsRow.holds Tryd.pinned (OpenSpec.ofChange instrumentFindsSpec)

/-- ITS FALSE NEIGHBOUR: 'it returns false'. Refute it at one input. -/
def instrumentFindsWrong : ChangeSpec := { name := "instrumentFinds", fn := fun _ => fun
  | [d1, d2] => { results := [.lit (.bool false)], args := [d1, d2] }
  | _ => none }
def InstrumentFindsWrongFalsely : Prop := instrumentFindsRow.holds Tryd.pinned (OpenSpec.ofChange instrumentFindsWrong)

/-- 'theorbolaw01.InstrumentRanges': WHATEVER THE INPUT: true; the input reads as it did. -/
def instrumentRangesSpec : ChangeSpec := { name := "instrumentRanges", fn := fun _ => fun
  | [d] => { results := [.lit (.bool true)], args := [d] }
  | _ => none }
def instrumentRangesRow : OpenClaim := { program := "ytbjmlbmkfgocdaadoor", sum := "12a5e69d4f9b66311c185e3d5ff9df3fcec5bb1c89cc4350919b1030c9c97178", func := "theorbo/theorbolaw01.InstrumentRanges", spec := "instrumentRanges", inPlace := ["internal/bytealg.CountString", "internal/bytealg.IndexByteString", "internal/bytealg.IndexString"], unfollowed := true, recurses := true, named := ["theorbo/instrument.standards", "unicode/utf8.first", "unicode/utf8.acceptRanges", "internal/bytealg.MaxLen", "theorbo/instrument.letters"], apart := false, laid := [("unicode/utf8.acceptRanges", laid_unicode_utf8_acceptRanges), ("theorbo/instrument.letters", laid_theorbo_instrument_letters), ("theorbo/instrument.standards", laid_theorbo_instrument_standards), ("unicode/utf8.first", laid_unicode_utf8_first)] }
def InstrumentRangesSaid : Prop := instrumentRangesRow.holds Tryd.pinned (OpenSpec.ofChange instrumentRangesSpec)

/-- ITS FALSE NEIGHBOUR: 'it returns false'. Refute it at one input. -/
def instrumentRangesWrong : ChangeSpec := { name := "instrumentRanges", fn := fun _ => fun
  | [d] => { results := [.lit (.bool false)], args := [d] }
  | _ => none }
def InstrumentRangesWrongFalsely : Prop := instrumentRangesRow.holds Tryd.pinned (OpenSpec.ofChange instrumentRangesWrong)

/-- 'theorbolaw01.InstrumentTunes': WHATEVER THE INPUT: true; the input reads as it did. -/
def instrumentTunesSpec : ChangeSpec := { name := "instrumentTunes", fn := fun _ => fun
  | [d1, d2, d3] => { results := [.lit (.bool true)], args := [d1, d2, d3] }
  | _ => none }
def instrumentTunesRow : OpenClaim := { program := "ytbjmlbmkfgocdaadoor", sum := "12a5e69d4f9b66311c185e3d5ff9df3fcec5bb1c89cc4350919b1030c9c97178", func := "theorbo/theorbolaw01.InstrumentTunes", spec := "instrumentTunes", inPlace := ["internal/bytealg.CountString", "internal/bytealg.IndexByteString", "internal/bytealg.IndexString"], named := ["theorbo/instrument.standards", "unicode/utf8.first", "unicode/utf8.acceptRanges", "internal/bytealg.MaxLen", "theorbo/instrument.letters"], apart := false, laid := [("unicode/utf8.acceptRanges", laid_unicode_utf8_acceptRanges), ("theorbo/instrument.letters", laid_theorbo_instrument_letters), ("theorbo/instrument.standards", laid_theorbo_instrument_standards), ("unicode/utf8.first", laid_unicode_utf8_first)] }
def InstrumentTunesSaid : Prop := instrumentTunesRow.holds Tryd.pinned (OpenSpec.ofChange instrumentTunesSpec)

/-- ITS FALSE NEIGHBOUR: 'it returns false'. Refute it at one input. -/
def instrumentTunesWrong : ChangeSpec := { name := "instrumentTunes", fn := fun _ => fun
  | [d1, d2, d3] => { results := [.lit (.bool false)], args := [d1, d2, d3] }
  | _ => none }
def InstrumentTunesWrongFalsely : Prop := instrumentTunesRow.holds Tryd.pinned (OpenSpec.ofChange instrumentTunesWrong)

/-- 'theorbolaw01.InstrumentTunesBack': WHATEVER THE INPUT: true; the input reads as it did. -/
def instrumentTunesBackSpec : ChangeSpec := { name := "instrumentTunesBack", fn := fun _ => fun
  | [d1, d2, d3] => { results := [.lit (.bool true)], args := [d1, d2, d3] }
  | _ => none }
def instrumentTunesBackRow : OpenClaim := { program := "ytbjmlbmkfgocdaadoor", sum := "12a5e69d4f9b66311c185e3d5ff9df3fcec5bb1c89cc4350919b1030c9c97178", func := "theorbo/theorbolaw01.InstrumentTunesBack", spec := "instrumentTunesBack", inPlace := ["internal/bytealg.CountString", "internal/bytealg.IndexByteString", "internal/bytealg.IndexString"], named := ["theorbo/instrument.standards", "unicode/utf8.first", "unicode/utf8.acceptRanges", "internal/bytealg.MaxLen", "theorbo/instrument.letters"], apart := false, laid := [("unicode/utf8.acceptRanges", laid_unicode_utf8_acceptRanges), ("theorbo/instrument.letters", laid_theorbo_instrument_letters), ("theorbo/instrument.standards", laid_theorbo_instrument_standards), ("unicode/utf8.first", laid_unicode_utf8_first)] }
def InstrumentTunesBackSaid : Prop := instrumentTunesBackRow.holds Tryd.pinned (OpenSpec.ofChange instrumentTunesBackSpec)

/-- ITS FALSE NEIGHBOUR: 'it returns false'. Refute it at one input. -/
def instrumentTunesBackWrong : ChangeSpec := { name := "instrumentTunesBack", fn := fun _ => fun
  | [d1, d2, d3] => { results := [.lit (.bool false)], args := [d1, d2, d3] }
  | _ => none }
def InstrumentTunesBackWrongFalsely : Prop := instrumentTunesBackRow.holds Tryd.pinned (OpenSpec.ofChange instrumentTunesBackWrong)

/-- 'theorbolaw01.InstrumentCapos': WHATEVER THE INPUT: true; the input reads as it did. -/
def instrumentCaposSpec : ChangeSpec := { name := "instrumentCapos", fn := fun _ => fun
  | [d1, d2] => { results := [.lit (.bool true)], args := [d1, d2] }
  | _ => none }
def instrumentCaposRow : OpenClaim := { program := "ytbjmlbmkfgocdaadoor", sum := "12a5e69d4f9b66311c185e3d5ff9df3fcec5bb1c89cc4350919b1030c9c97178", func := "theorbo/theorbolaw01.InstrumentCapos", spec := "instrumentCapos", inPlace := ["internal/bytealg.CountString", "internal/bytealg.IndexByteString", "internal/bytealg.IndexString"], named := ["theorbo/instrument.standards", "unicode/utf8.first", "unicode/utf8.acceptRanges", "internal/bytealg.MaxLen", "theorbo/instrument.letters"], apart := false, laid := [("unicode/utf8.acceptRanges", laid_unicode_utf8_acceptRanges), ("theorbo/instrument.letters", laid_theorbo_instrument_letters), ("theorbo/instrument.standards", laid_theorbo_instrument_standards), ("unicode/utf8.first", laid_unicode_utf8_first)] }
def InstrumentCaposSaid : Prop := instrumentCaposRow.holds Tryd.pinned (OpenSpec.ofChange instrumentCaposSpec)

/-- ITS FALSE NEIGHBOUR: 'it returns false'. Refute it at one input. -/
def instrumentCaposWrong : ChangeSpec := { name := "instrumentCapos", fn := fun _ => fun
  | [d1, d2] => { results := [.lit (.bool false)], args := [d1, d2] }
  | _ => none }
def InstrumentCaposWrongFalsely : Prop := instrumentCaposRow.holds Tryd.pinned (OpenSpec.ofChange instrumentCaposWrong)

/-- 'theorbolaw01.InstrumentCapoSounds': WHATEVER THE INPUT: true; the input reads as it did. -/
def instrumentCapoSoundsSpec : ChangeSpec := { name := "instrumentCapoSounds", fn := fun _ => fun
  | [d1, d2, d3] => { results := [.lit (.bool true)], args := [d1, d2, d3] }
  | _ => none }
def instrumentCapoSoundsRow : OpenClaim := { program := "ytbjmlbmkfgocdaadoor", sum := "12a5e69d4f9b66311c185e3d5ff9df3fcec5bb1c89cc4350919b1030c9c97178", func := "theorbo/theorbolaw01.InstrumentCapoSounds", spec := "instrumentCapoSounds", inPlace := ["internal/bytealg.CountString", "internal/bytealg.IndexByteString", "internal/bytealg.IndexString"], named := ["theorbo/instrument.standards", "unicode/utf8.first", "unicode/utf8.acceptRanges", "internal/bytealg.MaxLen", "theorbo/instrument.letters"], apart := false, laid := [("unicode/utf8.acceptRanges", laid_unicode_utf8_acceptRanges), ("theorbo/instrument.letters", laid_theorbo_instrument_letters), ("theorbo/instrument.standards", laid_theorbo_instrument_standards), ("unicode/utf8.first", laid_unicode_utf8_first)] }
def InstrumentCapoSoundsSaid : Prop := instrumentCapoSoundsRow.holds Tryd.pinned (OpenSpec.ofChange instrumentCapoSoundsSpec)

/-- ITS FALSE NEIGHBOUR: 'it returns false'. Refute it at one input. -/
def instrumentCapoSoundsWrong : ChangeSpec := { name := "instrumentCapoSounds", fn := fun _ => fun
  | [d1, d2, d3] => { results := [.lit (.bool false)], args := [d1, d2, d3] }
  | _ => none }
def InstrumentCapoSoundsWrongFalsely : Prop := instrumentCapoSoundsRow.holds Tryd.pinned (OpenSpec.ofChange instrumentCapoSoundsWrong)

/-- 'theorbolaw01.InstrumentCapoTwice': WHATEVER THE INPUT: true; the input reads as it did. -/
def instrumentCapoTwiceSpec : ChangeSpec := { name := "instrumentCapoTwice", fn := fun _ => fun
  | [d1, d2, d3] => { results := [.lit (.bool true)], args := [d1, d2, d3] }
  | _ => none }
def instrumentCapoTwiceRow : OpenClaim := { program := "ytbjmlbmkfgocdaadoor", sum := "12a5e69d4f9b66311c185e3d5ff9df3fcec5bb1c89cc4350919b1030c9c97178", func := "theorbo/theorbolaw01.InstrumentCapoTwice", spec := "instrumentCapoTwice", inPlace := ["internal/bytealg.CountString", "internal/bytealg.IndexByteString", "internal/bytealg.IndexString"], named := ["theorbo/instrument.standards", "unicode/utf8.first", "unicode/utf8.acceptRanges", "internal/bytealg.MaxLen", "theorbo/instrument.letters"], apart := false, laid := [("unicode/utf8.acceptRanges", laid_unicode_utf8_acceptRanges), ("theorbo/instrument.letters", laid_theorbo_instrument_letters), ("theorbo/instrument.standards", laid_theorbo_instrument_standards), ("unicode/utf8.first", laid_unicode_utf8_first)] }
def InstrumentCapoTwiceSaid : Prop := instrumentCapoTwiceRow.holds Tryd.pinned (OpenSpec.ofChange instrumentCapoTwiceSpec)

/-- ITS FALSE NEIGHBOUR: 'it returns false'. Refute it at one input. -/
def instrumentCapoTwiceWrong : ChangeSpec := { name := "instrumentCapoTwice", fn := fun _ => fun
  | [d1, d2, d3] => { results := [.lit (.bool false)], args := [d1, d2, d3] }
  | _ => none }
def InstrumentCapoTwiceWrongFalsely : Prop := instrumentCapoTwiceRow.holds Tryd.pinned (OpenSpec.ofChange instrumentCapoTwiceWrong)

/-- 'theorbolaw01.InstrumentSame': WHATEVER THE INPUT: true; the input reads as it did. -/
def instrumentSameSpec : ChangeSpec := { name := "instrumentSame", fn := fun _ => fun
  | [d1, d2] => { results := [.lit (.bool true)], args := [d1, d2] }
  | _ => none }
def instrumentSameRow : OpenClaim := { program := "ytbjmlbmkfgocdaadoor", sum := "12a5e69d4f9b66311c185e3d5ff9df3fcec5bb1c89cc4350919b1030c9c97178", func := "theorbo/theorbolaw01.InstrumentSame", spec := "instrumentSame", inPlace := ["internal/bytealg.CountString", "internal/bytealg.IndexByteString", "internal/bytealg.IndexString"], named := ["theorbo/instrument.standards", "unicode/utf8.first", "unicode/utf8.acceptRanges", "internal/bytealg.MaxLen", "theorbo/instrument.letters"], apart := false, laid := [("unicode/utf8.acceptRanges", laid_unicode_utf8_acceptRanges), ("theorbo/instrument.letters", laid_theorbo_instrument_letters), ("theorbo/instrument.standards", laid_theorbo_instrument_standards), ("unicode/utf8.first", laid_unicode_utf8_first)] }
def InstrumentSameSaid : Prop := instrumentSameRow.holds Tryd.pinned (OpenSpec.ofChange instrumentSameSpec)

/-- ITS FALSE NEIGHBOUR: 'it returns false'. Refute it at one input. -/
def instrumentSameWrong : ChangeSpec := { name := "instrumentSame", fn := fun _ => fun
  | [d1, d2] => { results := [.lit (.bool false)], args := [d1, d2] }
  | _ => none }
def InstrumentSameWrongFalsely : Prop := instrumentSameRow.holds Tryd.pinned (OpenSpec.ofChange instrumentSameWrong)

/-- 'theorbolaw01.InstrumentStandards': WHATEVER THE INPUT: true; the input reads as it did. -/
def instrumentStandardsSpec : ChangeSpec := { name := "instrumentStandards", fn := fun _ => fun
  | [d] => { results := [.lit (.bool true)], args := [d] }
  | _ => none }
def instrumentStandardsRow : OpenClaim := { program := "ytbjmlbmkfgocdaadoor", sum := "12a5e69d4f9b66311c185e3d5ff9df3fcec5bb1c89cc4350919b1030c9c97178", func := "theorbo/theorbolaw01.InstrumentStandards", spec := "instrumentStandards", inPlace := ["internal/bytealg.CountString", "internal/bytealg.IndexByteString", "internal/bytealg.IndexString"], named := ["theorbo/instrument.standards", "unicode/utf8.first", "unicode/utf8.acceptRanges", "internal/bytealg.MaxLen", "theorbo/instrument.letters"], apart := false, laid := [("unicode/utf8.acceptRanges", laid_unicode_utf8_acceptRanges), ("theorbo/instrument.letters", laid_theorbo_instrument_letters), ("theorbo/instrument.standards", laid_theorbo_instrument_standards), ("unicode/utf8.first", laid_unicode_utf8_first)] }
def InstrumentStandardsSaid : Prop := instrumentStandardsRow.holds Tryd.pinned (OpenSpec.ofChange instrumentStandardsSpec)

/-- ITS FALSE NEIGHBOUR: 'it returns false'. Refute it at one input. -/
def instrumentStandardsWrong : ChangeSpec := { name := "instrumentStandards", fn := fun _ => fun
  | [d] => { results := [.lit (.bool false)], args := [d] }
  | _ => none }
def InstrumentStandardsWrongFalsely : Prop := instrumentStandardsRow.holds Tryd.pinned (OpenSpec.ofChange instrumentStandardsWrong)

/- THE SECOND FORM. 'bulk': how many values and letters a reading holds, each counted each time it is reached (what is shared counts as often as it is met; a slice's spare places count too). A statement '..UptoSaid' is the law's where the arguments, and the package variables that the reading takes, are together of bulk at most 1048576: NARROWER than '..Said'. Prove '..Said' where nothing that the law and all that it calls make is longer than what came in: it says more and counts as full. Else prove '..UptoSaid'. A law counts once. -/
mutual
def uptoBulk {H : Type} : DataW H → Nat
  | .lit (.string bytes) => bytes.length + 1
  | .lit _ => 1
  | .nil => 1
  | .ptr d => uptoBulk d + 1
  | .slice elems spare => uptoBulkAll elems + uptoBulkAll spare + 1
  | .agg parts => uptoBulkAll parts + 1
  | .iface _ d => uptoBulk d + 1
  | .map entries => uptoBulkEntries entries + 1
  | .held _ => 1
def uptoBulkAll {H : Type} : List (DataW H) → Nat
  | [] => 0
  | d :: r => uptoBulk d + uptoBulkAll r
def uptoBulkEntries {H : Type} : List (Lit × DataW H) → Nat
  | [] => 0
  | x :: r => uptoBulkEntry x + uptoBulkEntries r
def uptoBulkEntry {H : Type} : Lit × DataW H → Nat
  | (.string bytes, d) => bytes.length + uptoBulk d + 1
  | (_, d) => uptoBulk d + 1
 end
def uptoSmall : (H : Type) → List (DataW H) → Bool := fun _ ds => decide (uptoBulkAll ds ≤ 1048576)
def OpenSpec.upto (s : _root_.Go.ChangeSpec) : _root_.Go.OpenSpec := { _root_.Go.OpenSpec.ofChange s with cond := some uptoSmall }

/-- 'theorbolaw01.InstrumentSpells', WHERE WHAT IT READS IS OF BULK AT MOST 1048576: true; the input reads as it did. -/
def instrumentSpellsUptoRow : OpenClaim := { program := "ytbjmlbmkfgocdaadoor", sum := "12a5e69d4f9b66311c185e3d5ff9df3fcec5bb1c89cc4350919b1030c9c97178", func := "theorbo/theorbolaw01.InstrumentSpells", spec := "instrumentSpells", inPlace := ["internal/bytealg.CountString", "internal/bytealg.IndexByteString", "internal/bytealg.IndexString"], named := ["theorbo/instrument.letters", "theorbo/instrument.standards", "unicode/utf8.first", "unicode/utf8.acceptRanges", "internal/bytealg.MaxLen"], apart := false, laid := [("unicode/utf8.acceptRanges", laid_unicode_utf8_acceptRanges), ("theorbo/instrument.letters", laid_theorbo_instrument_letters), ("theorbo/instrument.standards", laid_theorbo_instrument_standards), ("unicode/utf8.first", laid_unicode_utf8_first)], narrowed := true }
def InstrumentSpellsUptoSaid : Prop := instrumentSpellsUptoRow.holds Tryd.pinned (OpenSpec.upto instrumentSpellsSpec)

/-- 'theorbolaw01.InstrumentChecks', WHERE WHAT IT READS IS OF BULK AT MOST 1048576: true; the input reads as it did. -/
def instrumentChecksUptoRow : OpenClaim := { program := "ytbjmlbmkfgocdaadoor", sum := "12a5e69d4f9b66311c185e3d5ff9df3fcec5bb1c89cc4350919b1030c9c97178", func := "theorbo/theorbolaw01.InstrumentChecks", spec := "instrumentChecks", inPlace := ["internal/bytealg.CountString", "internal/bytealg.IndexByteString", "internal/bytealg.IndexString"], named := ["theorbo/instrument.standards", "unicode/utf8.first", "unicode/utf8.acceptRanges", "internal/bytealg.MaxLen", "theorbo/instrument.letters"], apart := false, laid := [("unicode/utf8.acceptRanges", laid_unicode_utf8_acceptRanges), ("theorbo/instrument.letters", laid_theorbo_instrument_letters), ("theorbo/instrument.standards", laid_theorbo_instrument_standards), ("unicode/utf8.first", laid_unicode_utf8_first)], narrowed := true }
def InstrumentChecksUptoSaid : Prop := instrumentChecksUptoRow.holds Tryd.pinned (OpenSpec.upto instrumentChecksSpec)

/-- 'theorbolaw01.InstrumentPlaces', WHERE WHAT IT READS IS OF BULK AT MOST 1048576: true; the input reads as it did. -/
def instrumentPlacesUptoRow : OpenClaim := { program := "ytbjmlbmkfgocdaadoor", sum := "12a5e69d4f9b66311c185e3d5ff9df3fcec5bb1c89cc4350919b1030c9c97178", func := "theorbo/theorbolaw01.InstrumentPlaces", spec := "instrumentPlaces", inPlace := ["internal/bytealg.CountString", "internal/bytealg.IndexByteString", "internal/bytealg.IndexString"], named := ["theorbo/instrument.standards", "unicode/utf8.first", "unicode/utf8.acceptRanges", "internal/bytealg.MaxLen", "theorbo/instrument.letters"], apart := false, laid := [("unicode/utf8.acceptRanges", laid_unicode_utf8_acceptRanges), ("theorbo/instrument.letters", laid_theorbo_instrument_letters), ("theorbo/instrument.standards", laid_theorbo_instrument_standards), ("unicode/utf8.first", laid_unicode_utf8_first)], narrowed := true }
def InstrumentPlacesUptoSaid : Prop := instrumentPlacesUptoRow.holds Tryd.pinned (OpenSpec.upto instrumentPlacesSpec)

/-- 'theorbolaw01.InstrumentFinds', WHERE WHAT IT READS IS OF BULK AT MOST 1048576: true; the input reads as it did. -/
def instrumentFindsUptoRow : OpenClaim := { program := "ytbjmlbmkfgocdaadoor", sum := "12a5e69d4f9b66311c185e3d5ff9df3fcec5bb1c89cc4350919b1030c9c97178", func := "theorbo/theorbolaw01.InstrumentFinds", spec := "instrumentFinds", inPlace := ["internal/bytealg.CountString", "internal/bytealg.IndexByteString", "internal/bytealg.IndexString"], named := ["theorbo/instrument.standards", "unicode/utf8.first", "unicode/utf8.acceptRanges", "internal/bytealg.MaxLen", "theorbo/instrument.letters"], apart := false, laid := [("unicode/utf8.acceptRanges", laid_unicode_utf8_acceptRanges), ("theorbo/instrument.letters", laid_theorbo_instrument_letters), ("theorbo/instrument.standards", laid_theorbo_instrument_standards), ("unicode/utf8.first", laid_unicode_utf8_first)], narrowed := true }
def InstrumentFindsUptoSaid : Prop := instrumentFindsUptoRow.holds Tryd.pinned (OpenSpec.upto instrumentFindsSpec)

/-- 'theorbolaw01.InstrumentRanges', WHERE WHAT IT READS IS OF BULK AT MOST 1048576: true; the input reads as it did. -/
def instrumentRangesUptoRow : OpenClaim := { program := "ytbjmlbmkfgocdaadoor", sum := "12a5e69d4f9b66311c185e3d5ff9df3fcec5bb1c89cc4350919b1030c9c97178", func := "theorbo/theorbolaw01.InstrumentRanges", spec := "instrumentRanges", inPlace := ["internal/bytealg.CountString", "internal/bytealg.IndexByteString", "internal/bytealg.IndexString"], unfollowed := true, recurses := true, named := ["theorbo/instrument.standards", "unicode/utf8.first", "unicode/utf8.acceptRanges", "internal/bytealg.MaxLen", "theorbo/instrument.letters"], apart := false, laid := [("unicode/utf8.acceptRanges", laid_unicode_utf8_acceptRanges), ("theorbo/instrument.letters", laid_theorbo_instrument_letters), ("theorbo/instrument.standards", laid_theorbo_instrument_standards), ("unicode/utf8.first", laid_unicode_utf8_first)], narrowed := true }
def InstrumentRangesUptoSaid : Prop := instrumentRangesUptoRow.holds Tryd.pinned (OpenSpec.upto instrumentRangesSpec)

/-- 'theorbolaw01.InstrumentTunes', WHERE WHAT IT READS IS OF BULK AT MOST 1048576: true; the input reads as it did. -/
def instrumentTunesUptoRow : OpenClaim := { program := "ytbjmlbmkfgocdaadoor", sum := "12a5e69d4f9b66311c185e3d5ff9df3fcec5bb1c89cc4350919b1030c9c97178", func := "theorbo/theorbolaw01.InstrumentTunes", spec := "instrumentTunes", inPlace := ["internal/bytealg.CountString", "internal/bytealg.IndexByteString", "internal/bytealg.IndexString"], named := ["theorbo/instrument.standards", "unicode/utf8.first", "unicode/utf8.acceptRanges", "internal/bytealg.MaxLen", "theorbo/instrument.letters"], apart := false, laid := [("unicode/utf8.acceptRanges", laid_unicode_utf8_acceptRanges), ("theorbo/instrument.letters", laid_theorbo_instrument_letters), ("theorbo/instrument.standards", laid_theorbo_instrument_standards), ("unicode/utf8.first", laid_unicode_utf8_first)], narrowed := true }
def InstrumentTunesUptoSaid : Prop := instrumentTunesUptoRow.holds Tryd.pinned (OpenSpec.upto instrumentTunesSpec)

/-- 'theorbolaw01.InstrumentTunesBack', WHERE WHAT IT READS IS OF BULK AT MOST 1048576: true; the input reads as it did. -/
def instrumentTunesBackUptoRow : OpenClaim := { program := "ytbjmlbmkfgocdaadoor", sum := "12a5e69d4f9b66311c185e3d5ff9df3fcec5bb1c89cc4350919b1030c9c97178", func := "theorbo/theorbolaw01.InstrumentTunesBack", spec := "instrumentTunesBack", inPlace := ["internal/bytealg.CountString", "internal/bytealg.IndexByteString", "internal/bytealg.IndexString"], named := ["theorbo/instrument.standards", "unicode/utf8.first", "unicode/utf8.acceptRanges", "internal/bytealg.MaxLen", "theorbo/instrument.letters"], apart := false, laid := [("unicode/utf8.acceptRanges", laid_unicode_utf8_acceptRanges), ("theorbo/instrument.letters", laid_theorbo_instrument_letters), ("theorbo/instrument.standards", laid_theorbo_instrument_standards), ("unicode/utf8.first", laid_unicode_utf8_first)], narrowed := true }
def InstrumentTunesBackUptoSaid : Prop := instrumentTunesBackUptoRow.holds Tryd.pinned (OpenSpec.upto instrumentTunesBackSpec)

/-- 'theorbolaw01.InstrumentCapos', WHERE WHAT IT READS IS OF BULK AT MOST 1048576: true; the input reads as it did. -/
def instrumentCaposUptoRow : OpenClaim := { program := "ytbjmlbmkfgocdaadoor", sum := "12a5e69d4f9b66311c185e3d5ff9df3fcec5bb1c89cc4350919b1030c9c97178", func := "theorbo/theorbolaw01.InstrumentCapos", spec := "instrumentCapos", inPlace := ["internal/bytealg.CountString", "internal/bytealg.IndexByteString", "internal/bytealg.IndexString"], named := ["theorbo/instrument.standards", "unicode/utf8.first", "unicode/utf8.acceptRanges", "internal/bytealg.MaxLen", "theorbo/instrument.letters"], apart := false, laid := [("unicode/utf8.acceptRanges", laid_unicode_utf8_acceptRanges), ("theorbo/instrument.letters", laid_theorbo_instrument_letters), ("theorbo/instrument.standards", laid_theorbo_instrument_standards), ("unicode/utf8.first", laid_unicode_utf8_first)], narrowed := true }
def InstrumentCaposUptoSaid : Prop := instrumentCaposUptoRow.holds Tryd.pinned (OpenSpec.upto instrumentCaposSpec)

/-- 'theorbolaw01.InstrumentCapoSounds', WHERE WHAT IT READS IS OF BULK AT MOST 1048576: true; the input reads as it did. -/
def instrumentCapoSoundsUptoRow : OpenClaim := { program := "ytbjmlbmkfgocdaadoor", sum := "12a5e69d4f9b66311c185e3d5ff9df3fcec5bb1c89cc4350919b1030c9c97178", func := "theorbo/theorbolaw01.InstrumentCapoSounds", spec := "instrumentCapoSounds", inPlace := ["internal/bytealg.CountString", "internal/bytealg.IndexByteString", "internal/bytealg.IndexString"], named := ["theorbo/instrument.standards", "unicode/utf8.first", "unicode/utf8.acceptRanges", "internal/bytealg.MaxLen", "theorbo/instrument.letters"], apart := false, laid := [("unicode/utf8.acceptRanges", laid_unicode_utf8_acceptRanges), ("theorbo/instrument.letters", laid_theorbo_instrument_letters), ("theorbo/instrument.standards", laid_theorbo_instrument_standards), ("unicode/utf8.first", laid_unicode_utf8_first)], narrowed := true }
def InstrumentCapoSoundsUptoSaid : Prop := instrumentCapoSoundsUptoRow.holds Tryd.pinned (OpenSpec.upto instrumentCapoSoundsSpec)

/-- 'theorbolaw01.InstrumentCapoTwice', WHERE WHAT IT READS IS OF BULK AT MOST 1048576: true; the input reads as it did. -/
def instrumentCapoTwiceUptoRow : OpenClaim := { program := "ytbjmlbmkfgocdaadoor", sum := "12a5e69d4f9b66311c185e3d5ff9df3fcec5bb1c89cc4350919b1030c9c97178", func := "theorbo/theorbolaw01.InstrumentCapoTwice", spec := "instrumentCapoTwice", inPlace := ["internal/bytealg.CountString", "internal/bytealg.IndexByteString", "internal/bytealg.IndexString"], named := ["theorbo/instrument.standards", "unicode/utf8.first", "unicode/utf8.acceptRanges", "internal/bytealg.MaxLen", "theorbo/instrument.letters"], apart := false, laid := [("unicode/utf8.acceptRanges", laid_unicode_utf8_acceptRanges), ("theorbo/instrument.letters", laid_theorbo_instrument_letters), ("theorbo/instrument.standards", laid_theorbo_instrument_standards), ("unicode/utf8.first", laid_unicode_utf8_first)], narrowed := true }
def InstrumentCapoTwiceUptoSaid : Prop := instrumentCapoTwiceUptoRow.holds Tryd.pinned (OpenSpec.upto instrumentCapoTwiceSpec)

/-- 'theorbolaw01.InstrumentSame', WHERE WHAT IT READS IS OF BULK AT MOST 1048576: true; the input reads as it did. -/
def instrumentSameUptoRow : OpenClaim := { program := "ytbjmlbmkfgocdaadoor", sum := "12a5e69d4f9b66311c185e3d5ff9df3fcec5bb1c89cc4350919b1030c9c97178", func := "theorbo/theorbolaw01.InstrumentSame", spec := "instrumentSame", inPlace := ["internal/bytealg.CountString", "internal/bytealg.IndexByteString", "internal/bytealg.IndexString"], named := ["theorbo/instrument.standards", "unicode/utf8.first", "unicode/utf8.acceptRanges", "internal/bytealg.MaxLen", "theorbo/instrument.letters"], apart := false, laid := [("unicode/utf8.acceptRanges", laid_unicode_utf8_acceptRanges), ("theorbo/instrument.letters", laid_theorbo_instrument_letters), ("theorbo/instrument.standards", laid_theorbo_instrument_standards), ("unicode/utf8.first", laid_unicode_utf8_first)], narrowed := true }
def InstrumentSameUptoSaid : Prop := instrumentSameUptoRow.holds Tryd.pinned (OpenSpec.upto instrumentSameSpec)

/-- 'theorbolaw01.InstrumentStandards', WHERE WHAT IT READS IS OF BULK AT MOST 1048576: true; the input reads as it did. -/
def instrumentStandardsUptoRow : OpenClaim := { program := "ytbjmlbmkfgocdaadoor", sum := "12a5e69d4f9b66311c185e3d5ff9df3fcec5bb1c89cc4350919b1030c9c97178", func := "theorbo/theorbolaw01.InstrumentStandards", spec := "instrumentStandards", inPlace := ["internal/bytealg.CountString", "internal/bytealg.IndexByteString", "internal/bytealg.IndexString"], named := ["theorbo/instrument.standards", "unicode/utf8.first", "unicode/utf8.acceptRanges", "internal/bytealg.MaxLen", "theorbo/instrument.letters"], apart := false, laid := [("unicode/utf8.acceptRanges", laid_unicode_utf8_acceptRanges), ("theorbo/instrument.letters", laid_theorbo_instrument_letters), ("theorbo/instrument.standards", laid_theorbo_instrument_standards), ("unicode/utf8.first", laid_unicode_utf8_first)], narrowed := true }
def InstrumentStandardsUptoSaid : Prop := instrumentStandardsUptoRow.holds Tryd.pinned (OpenSpec.upto instrumentStandardsSpec)

end Rows
end Go.Proofs.YtbjmlbmkfgocdaaDoor
