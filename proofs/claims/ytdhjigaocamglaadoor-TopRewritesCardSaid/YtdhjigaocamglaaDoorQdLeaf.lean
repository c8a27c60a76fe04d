/- Plain functions on numbers and bytes that say what layer 1 of the document computes: pitches, names, spelling. No program is imported here. -/
import Derived.Test.YtdhjigaocamglaaDoorProg
import Derived.WalkKit
import Derived.WalkSpells
import Derived.WalkLawsBesides
import Derived.Deep.QuietTactic
import Derived.BigQuiet
import Derived.Lib.Hide

namespace Go.Proofs.YtdhjigaocamglaaDoor

/-- The semitones of a letter above C. -/
def bas (l : Int) : Int := if l < 3 then 2 * l else 2 * l - 1
/-- Its place on the line of fifths. -/
def fif (l : Int) : Int := if l = 0 then 0 else if l = 1 then 2 else if l = 2 then 4 else if l = 3 then -1 else if l = 4 then 1 else if l = 5 then 3 else 5
def isP (p : Int) : Bool := decide (0 ≤ p) && decide (p ≤ 127)
theorem isP_iff {p : Int} : isP p = true ↔ 0 ≤ p ∧ p ≤ 127 := by simp [isP]
/-- The names of the letters. -/
def lnB (n : Nat) : List UInt8 := [[67], [68], [69], [70], [71], [65], [66]].getD n []
def lnm (n : Nat) : ByteArray := ⟨(lnB n).toArray⟩
/-- The standard instruments: names and texts. -/
def stnB (n : Nat) : List UInt8 := [[108, 117, 116, 101, 54], [108, 117, 116, 101, 55], [108, 117, 116, 101, 49, 48], [98, 97, 114, 111, 113, 117, 101, 49, 51], [116, 104, 101, 111, 114, 98, 111, 49, 52], [118, 105, 104, 117, 101, 108, 97, 54], [103, 117, 105, 116, 97, 114, 52], [103, 117, 105, 116, 97, 114, 53], [99, 105, 116, 116, 101, 114, 110, 52]].getD n []
def stn (n : Nat) : ByteArray := ⟨(stnB n).toArray⟩
def sttB (n : Nat) : List UInt8 := [[71, 52, 47, 56, 32, 68, 52, 47, 56, 32, 65, 51, 47, 56, 32, 70, 51, 47, 56, 43, 32, 67, 51, 47, 56, 43, 32, 71, 50, 47, 56, 43, 32, 58, 32, 49, 32, 50, 32, 51, 32, 52, 32, 53, 32, 54, 32, 55, 32, 56], [71, 52, 47, 56, 32, 68, 52, 47, 56, 32, 65, 51, 47, 56, 32, 70, 51, 47, 56, 43, 32, 67, 51, 47, 56, 43, 32, 71, 50, 47, 56, 43, 32, 68, 50, 47, 56, 43, 32, 58, 32, 49, 32, 50, 32, 51, 32, 52, 32, 53, 32, 54, 32, 55, 32, 56], [71, 52, 47, 56, 32, 68, 52, 47, 56, 32, 65, 51, 47, 56, 32, 70, 51, 47, 56, 32, 67, 51, 47, 56, 43, 32, 71, 50, 47, 56, 43, 32, 70, 50, 47, 56, 43, 32, 69, 98, 50, 47, 56, 43, 32, 68, 50, 47, 56, 43, 32, 67, 50, 47, 56, 43, 32, 58, 32, 49, 32, 50, 32, 51, 32, 52, 32, 53, 32, 54, 32, 55, 32, 56], [70, 52, 47, 57, 32, 68, 52, 47, 57, 32, 65, 51, 47, 57, 32, 70, 51, 47, 57, 32, 68, 51, 47, 57, 32, 65, 50, 47, 57, 43, 32, 71, 50, 47, 57, 43, 32, 70, 50, 47, 57, 43, 32, 69, 50, 47, 48, 43, 32, 68, 50, 47, 48, 43, 32, 67, 50, 47, 48, 43, 32, 66, 49, 47, 48, 43, 32, 65, 49, 47, 48, 43, 32, 58, 32, 49, 32, 50, 32, 51, 32, 52, 32, 53, 32, 54, 32, 55, 32, 56, 32, 57], [65, 51, 47, 56, 32, 69, 51, 47, 56, 32, 66, 51, 47, 56, 32, 71, 51, 47, 56, 32, 68, 51, 47, 56, 32, 65, 50, 47, 56, 32, 71, 50, 47, 48, 32, 70, 50, 47, 48, 32, 69, 50, 47, 48, 32, 68, 50, 47, 48, 32, 67, 50, 47, 48, 32, 66, 49, 47, 48, 32, 65, 49, 47, 48, 32, 71, 49, 47, 48, 32, 58, 32, 49, 32, 50, 32, 51, 32, 52, 32, 53, 32, 54, 32, 55, 32, 56], [71, 52, 47, 49, 48, 32, 68, 52, 47, 49, 48, 32, 65, 51, 47, 49, 48, 32, 70, 51, 47, 49, 48, 32, 67, 51, 47, 49, 48, 32, 71, 50, 47, 49, 48, 32, 58, 32, 49, 32, 50, 32, 51, 32, 52, 32, 53, 32, 54, 32, 55, 32, 56, 32, 57, 32, 49, 48], [65, 52, 47, 56, 32, 69, 52, 47, 56, 32, 67, 52, 47, 56, 32, 71, 51, 47, 56, 43, 32, 58, 32, 49, 32, 50, 32, 51, 32, 52, 32, 53, 32, 54, 32, 55, 32, 56], [69, 52, 47, 56, 32, 66, 51, 47, 56, 32, 71, 51, 47, 56, 32, 68, 52, 47, 56, 32, 65, 51, 47, 56, 32, 58, 32, 49, 32, 50, 32, 51, 32, 52, 32, 53, 32, 54, 32, 55, 32, 56], [69, 52, 47, 57, 32, 68, 52, 47, 57, 32, 71, 51, 47, 57, 32, 66, 51, 47, 57, 32, 58, 32, 50, 32, 51, 32, 52, 32, 53, 32, 55, 32, 57, 32, 49, 48, 32, 49, 49, 32, 49, 50]].getD n []
def stt (n : Nat) : ByteArray := ⟨(sttB n).toArray⟩

end Go.Proofs.YtdhjigaocamglaaDoor

/- Plain functions on bytes that say how the document reads the name of a note and a number. No program is imported here. -/
namespace Go.Proofs.YtdhjigaocamglaaDoor

end Go.Proofs.YtdhjigaocamglaaDoor

/- Plain functions that say when an instrument is valid and what its places sound. No program is imported here. -/
namespace Go.Proofs.YtdhjigaocamglaaDoor

structure Cr where
  p : Int
  f : Int
  o : Bool

def riseB : Int → List Int → Bool
  | _, [] => true
  | b, s :: r => !decide (s ≤ b) && !decide (127 < s) && riseB s r
/-- The semitones from the open string to a fret. -/
def riseV (S : List Int) (f : Int) : Int := if f = 0 then 0 else S.getD (f - 1).toNat 0
def crTop (S : List Int) (c : Cr) : Int := c.p + riseV S c.f + if c.o then 12 else 0
def crErr (S : List Int) (c : Cr) : Int := if c.f < 0 ∨ (S.length : Int) < c.f then 13 else if isP c.p = false then 10 else if 127 < crTop S c then 10 else 0
def crsErr (S : List Int) : List Cr → Int
  | [] => 0
  | c :: r => if crErr S c = 0 then crsErr S r else crErr S c
def chk (C : List Cr) (S : List Int) : Int :=
  if 14 < C.length ∨ 18 < S.length then 2 else if C.length = 0 ∨ riseB 0 S = false then 11 else crsErr S C

theorem riseB_bd : ∀ (S : List Int) (b : Int), riseB b S = true → ∀ s ∈ S, b < s ∧ s ≤ 127
  | [], _, _, s, hs => by cases hs
  | x :: r, b, h, s, hs => by
    simp [riseB] at h
    rcases List.mem_cons.1 hs with rfl | hs
    · exact ⟨by omega, by omega⟩
    · have := riseB_bd r x h.2 s hs
      omega
theorem riseV_bd {S : List Int} {f : Int} (h : riseB 0 S = true) (h0 : 0 ≤ f) (h1 : f ≤ S.length) : 0 ≤ riseV S f ∧ riseV S f ≤ 127 := by
  unfold riseV
  split
  · omega
  · have hlt : (f - 1).toNat < S.length := by omega
    have hg : S.getD (f - 1).toNat 0 = S[(f - 1).toNat] := by rw [List.getD_eq_getElem?_getD, List.getElem?_eq_getElem hlt]; rfl
    rw [hg]
    have := riseB_bd S 0 h _ (List.getElem_mem hlt)
    omega

end Go.Proofs.YtdhjigaocamglaaDoor

/- Plain functions: the places that sound a pitch, as both the program and its reference find them. No program is imported here. -/
namespace Go.Proofs.YtdhjigaocamglaaDoor

end Go.Proofs.YtdhjigaocamglaaDoor

/- What the small functions of layer 1 return, in the program and in its reference: one contract for each function. -/
namespace Go.Proofs.YtdhjigaocamglaaDoor
open Go.RowKit

theorem ret_int {k : IntKind} {a b : Int} (h : a = b) : Ending.returned (.int k a) = .returned (.int k b) := by rw [h]
theorem ret_bool {a b : Bool} (h : a = b) : Ending.returned (.bool a) = .returned (.bool b) := by rw [h]
theorem bcell {W w1 : World} (hb : Below W.heap.size W w1) : (∀ b o, b < W.heap.size → w1.cell? ⟨b, o, none⟩ = W.cell? ⟨b, o, none⟩) ∧ (∀ b o, b < W.heap.size → w1.frozen? ⟨b, o, none⟩ = W.frozen? ⟨b, o, none⟩) :=
  ⟨fun b o h => hb.cell (p := ⟨b, o, none⟩) h, fun b o h => hb.frozen (p := ⟨b, o, none⟩) h⟩
theorem bx {w w1 : World} {o : Obj} (hb : Below (w.alloc o).heap.size (w.alloc o) w1) : Below w.heap.size w w1 :=
  ((Below.refl _ _).alloc (Nat.le_refl _) o).trans (hb.mono (by simp))
theorem bt {w w1 w2 : World} (h1 : Below w.heap.size w w1) (h2 : Below w1.heap.size w1 w2) : Below w.heap.size w w2 := h1.trans (h2.mono h1.size)
theorem ba (w : World) (o : Obj) : Below w.heap.size w (w.alloc o) := (Below.refl _ _).alloc (Nat.le_refl _) o
theorem bd {B : Nat} {w w1 : World} (h : Below B w w1) (n : Nat) : Below B w (w1.drewN n) := below_drewN h n

set_option maxHeartbeats 400000 in
theorem isPitch_any (p : Int) (w : World) :
    Calls Tryd.prog 90 #[.int .i64 p] w fun e w' => e = .returned (.bool (isP p)) ∧ w = w' := by
  go_enter Tryd.func90, Tryd.ntmps90
  go_wp2
  all_goals (go_ret; exact ⟨ret_bool (by simp [isP]; omega), rfl⟩)

/-- The cells of the two tables. -/
def letC : Array Value := ((List.range 7).flatMap fun n => [.string (lnm n), .int .i64 (bas n), .int .i64 (fif n)]).toArray
def stdC : Array Value := ((List.range 9).flatMap fun n => [.string (stn n), .string (stt n)]).toArray

end Go.Proofs.YtdhjigaocamglaaDoor
