/- Plain functions on numbers and bytes that say what layer 1 of the document computes: pitches, names, spelling. No program is imported here. -/
namespace Go.Proofs.YtlmpoklakbjpnaaDoor

/-- The semitones of a letter above C. -/
def bas (l : Int) : Int := if l < 3 then 2 * l else 2 * l - 1
/-- Its place on the line of fifths. -/
def fif (l : Int) : Int := if l = 0 then 0 else if l = 1 then 2 else if l = 2 then 4 else if l = 3 then -1 else if l = 4 then 1 else if l = 5 then 3 else 5
def pit (l a o : Int) : Int := 12 * (o + 1) + bas l + a
def rngB (l a o : Int) : Bool := decide (0 ≤ l) && decide (l ≤ 6) && decide (-1 ≤ a) && decide (a ≤ 1) && decide (-1 ≤ o) && decide (o ≤ 9)
def isP (p : Int) : Bool := decide (0 ≤ p) && decide (p ≤ 127)
/-- Is the note valid? -/
def rgt (l a o : Int) : Bool := rngB l a o && isP (pit l a o)
def sndP (l a o : Int) : Int := if rgt l a o then pit l a o else 0
def sndE (l a o : Int) : Int := if rgt l a o then 0 else 10

theorem rngB_iff {l a o : Int} : rngB l a o = true ↔ (0 ≤ l ∧ l ≤ 6) ∧ (-1 ≤ a ∧ a ≤ 1) ∧ -1 ≤ o ∧ o ≤ 9 := by
  simp [rngB, and_assoc]
theorem isP_iff {p : Int} : isP p = true ↔ 0 ≤ p ∧ p ≤ 127 := by simp [isP]
theorem bas_bd {l : Int} (h0 : 0 ≤ l) (h6 : l ≤ 6) : 0 ≤ bas l ∧ bas l ≤ 11 := by unfold bas; split <;> omega
theorem rgt_no {l a o : Int} (h : rngB l a o = false) : rgt l a o = false := by simp [rgt, h]
theorem rgt_of {l a o : Int} (h : rngB l a o = true) : rgt l a o = isP (pit l a o) := by simp [rgt, h]
theorem rgt_rng {l a o : Int} (h : rgt l a o = true) : rngB l a o = true ∧ isP (pit l a o) = true := by simpa [rgt] using h

/-- The names of the letters. -/
def lnB (n : Nat) : List UInt8 := [[67], [68], [69], [70], [71], [65], [66]].getD n []
def lnm (n : Nat) : ByteArray := ⟨(lnB n).toArray⟩
/-- The standard instruments: names and texts. -/
def stnB (n : Nat) : List UInt8 := [[108, 117, 116, 101, 54], [108, 117, 116, 101, 55], [108, 117, 116, 101, 49, 48], [98, 97, 114, 111, 113, 117, 101, 49, 51], [116, 104, 101, 111, 114, 98, 111, 49, 52], [118, 105, 104, 117, 101, 108, 97, 54], [103, 117, 105, 116, 97, 114, 52], [103, 117, 105, 116, 97, 114, 53], [99, 105, 116, 116, 101, 114, 110, 52]].getD n []
def stn (n : Nat) : ByteArray := ⟨(stnB n).toArray⟩
def sttB (n : Nat) : List UInt8 := [[71, 52, 47, 56, 32, 68, 52, 47, 56, 32, 65, 51, 47, 56, 32, 70, 51, 47, 56, 43, 32, 67, 51, 47, 56, 43, 32, 71, 50, 47, 56, 43, 32, 58, 32, 49, 32, 50, 32, 51, 32, 52, 32, 53, 32, 54, 32, 55, 32, 56], [71, 52, 47, 56, 32, 68, 52, 47, 56, 32, 65, 51, 47, 56, 32, 70, 51, 47, 56, 43, 32, 67, 51, 47, 56, 43, 32, 71, 50, 47, 56, 43, 32, 68, 50, 47, 56, 43, 32, 58, 32, 49, 32, 50, 32, 51, 32, 52, 32, 53, 32, 54, 32, 55, 32, 56], [71, 52, 47, 56, 32, 68, 52, 47, 56, 32, 65, 51, 47, 56, 32, 70, 51, 47, 56, 32, 67, 51, 47, 56, 43, 32, 71, 50, 47, 56, 43, 32, 70, 50, 47, 56, 43, 32, 69, 98, 50, 47, 56, 43, 32, 68, 50, 47, 56, 43, 32, 67, 50, 47, 56, 43, 32, 58, 32, 49, 32, 50, 32, 51, 32, 52, 32, 53, 32, 54, 32, 55, 32, 56], [70, 52, 47, 57, 32, 68, 52, 47, 57, 32, 65, 51, 47, 57, 32, 70, 51, 47, 57, 32, 68, 51, 47, 57, 32, 65, 50, 47, 57, 43, 32, 71, 50, 47, 57, 43, 32, 70, 50, 47, 57, 43, 32, 69, 50, 47, 48, 43, 32, 68, 50, 47, 48, 43, 32, 67, 50, 47, 48, 43, 32, 66, 49, 47, 48, 43, 32, 65, 49, 47, 48, 43, 32, 58, 32, 49, 32, 50, 32, 51, 32, 52, 32, 53, 32, 54, 32, 55, 32, 56, 32, 57], [65, 51, 47, 56, 32, 69, 51, 47, 56, 32, 66, 51, 47, 56, 32, 71, 51, 47, 56, 32, 68, 51, 47, 56, 32, 65, 50, 47, 56, 32, 71, 50, 47, 48, 32, 70, 50, 47, 48, 32, 69, 50, 47, 48, 32, 68, 50, 47, 48, 32, 67, 50, 47, 48, 32, 66, 49, 47, 48, 32, 65, 49, 47, 48, 32, 71, 49, 47, 48, 32, 58, 32, 49, 32, 50, 32, 51, 32, 52, 32, 53, 32, 54, 32, 55, 32, 56], [71, 52, 47, 49, 48, 32, 68, 52, 47, 49, 48, 32, 65, 51, 47, 49, 48, 32, 70, 51, 47, 49, 48, 32, 67, 51, 47, 49, 48, 32, 71, 50, 47, 49, 48, 32, 58, 32, 49, 32, 50, 32, 51, 32, 52, 32, 53, 32, 54, 32, 55, 32, 56, 32, 57, 32, 49, 48], [65, 52, 47, 56, 32, 69, 52, 47, 56, 32, 67, 52, 47, 56, 32, 71, 51, 47, 56, 43, 32, 58, 32, 49, 32, 50, 32, 51, 32, 52, 32, 53, 32, 54, 32, 55, 32, 56], [69, 52, 47, 56, 32, 66, 51, 47, 56, 32, 71, 51, 47, 56, 32, 68, 52, 47, 56, 32, 65, 51, 47, 56, 32, 58, 32, 49, 32, 50, 32, 51, 32, 52, 32, 53, 32, 54, 32, 55, 32, 56], [69, 52, 47, 57, 32, 68, 52, 47, 57, 32, 71, 51, 47, 57, 32, 66, 51, 47, 57, 32, 58, 32, 50, 32, 51, 32, 52, 32, 53, 32, 55, 32, 57, 32, 49, 48, 32, 49, 49, 32, 49, 50]].getD n []
def stt (n : Nat) : ByteArray := ⟨(sttB n).toArray⟩

/-- What stands for an accidental in a name. -/
def altB (a : Int) : List UInt8 := if a = -1 then [98] else if a = 1 then [35] else []

end Go.Proofs.YtlmpoklakbjpnaaDoor
