/- Plain functions on numbers and bytes that say what layer 1 of the document computes: pitches, names, spelling. No program is imported here. -/

namespace Go.Proofs.YtjobablfojnppaaDoor

/-- The semitones of a letter above C. -/
def bas (l : Int) : Int := if l < 3 then 2 * l else 2 * l - 1
/-- Its place on the line of fifths. -/
def fif (l : Int) : Int := if l = 0 then 0 else if l = 1 then 2 else if l = 2 then 4 else if l = 3 then -1 else if l = 4 then 1 else if l = 5 then 3 else 5
def pit (l a o : Int) : Int := 12 * (o + 1) + bas l + a
def rngB (l a o : Int) : Bool := decide (0 ≤ l) && decide (l ≤ 6) && decide (-1 ≤ a) && decide (a ≤ 1) && decide (-1 ≤ o) && decide (o ≤ 9)
def isP (p : Int) : Bool := decide (0 ≤ p) && decide (p ≤ 127)
/-- Is the note valid? -/
def rgt (l a o : Int) : Bool := rngB l a o && isP (pit l a o)
def sndP (l a o : Int) : Int := if rgt l a o then pit l a o else 0
def sndE (l a o : Int) : Int := if rgt l a o then 0 else 10

theorem rngB_iff {l a o : Int} : rngB l a o = true ↔ (0 ≤ l ∧ l ≤ 6) ∧ (-1 ≤ a ∧ a ≤ 1) ∧ -1 ≤ o ∧ o ≤ 9 := by
  simp [rngB, and_assoc]
theorem isP_iff {p : Int} : isP p = true ↔ 0 ≤ p ∧ p ≤ 127 := by simp [isP]
theorem bas_bd {l : Int} (h0 : 0 ≤ l) (h6 : l ≤ 6) : 0 ≤ bas l ∧ bas l ≤ 11 := by unfold bas; split <;> omega
theorem rgt_no {l a o : Int} (h : rngB l a o = false) : rgt l a o = false := by simp [rgt, h]
theorem rgt_of {l a o : Int} (h : rngB l a o = true) : rgt l a o = isP (pit l a o) := by simp [rgt, h]
theorem rgt_rng {l a o : Int} (h : rgt l a o = true) : rngB l a o = true ∧ isP (pit l a o) = true := by simpa [rgt] using h

/-- The names of the letters. -/
def lnB (n : Nat) : List UInt8 := [[67], [68], [69], [70], [71], [65], [66]].getD n []
def lnm (n : Nat) : ByteArray := ⟨(lnB n).toArray⟩
/-- The standard instruments: names and texts. -/
def stnB (n : Nat) : List UInt8 := [[108, 117, 116, 101, 54], [108, 117, 116, 101, 55], [108, 117, 116, 101, 49, 48], [98, 97, 114, 111, 113, 117, 101, 49, 51], [116, 104, 101, 111, 114, 98, 111, 49, 52], [118, 105, 104, 117, 101, 108, 97, 54], [103, 117, 105, 116, 97, 114, 52], [103, 117, 105, 116, 97, 114, 53], [99, 105, 116, 116, 101, 114, 110, 52]].getD n []
def stn (n : Nat) : ByteArray := ⟨(stnB n).toArray⟩
def sttB (n : Nat) : List UInt8 := [[71, 52, 47, 56, 32, 68, 52, 47, 56, 32, 65, 51, 47, 56, 32, 70, 51, 47, 56, 43, 32, 67, 51, 47, 56, 43, 32, 71, 50, 47, 56, 43, 32, 58, 32, 49, 32, 50, 32, 51, 32, 52, 32, 53, 32, 54, 32, 55, 32, 56], [71, 52, 47, 56, 32, 68, 52, 47, 56, 32, 65, 51, 47, 56, 32, 70, 51, 47, 56, 43, 32, 67, 51, 47, 56, 43, 32, 71, 50, 47, 56, 43, 32, 68, 50, 47, 56, 43, 32, 58, 32, 49, 32, 50, 32, 51, 32, 52, 32, 53, 32, 54, 32, 55, 32, 56], [71, 52, 47, 56, 32, 68, 52, 47, 56, 32, 65, 51, 47, 56, 32, 70, 51, 47, 56, 32, 67, 51, 47, 56, 43, 32, 71, 50, 47, 56, 43, 32, 70, 50, 47, 56, 43, 32, 69, 98, 50, 47, 56, 43, 32, 68, 50, 47, 56, 43, 32, 67, 50, 47, 56, 43, 32, 58, 32, 49, 32, 50, 32, 51, 32, 52, 32, 53, 32, 54, 32, 55, 32, 56], [70, 52, 47, 57, 32, 68, 52, 47, 57, 32, 65, 51, 47, 57, 32, 70, 51, 47, 57, 32, 68, 51, 47, 57, 32, 65, 50, 47, 57, 43, 32, 71, 50, 47, 57, 43, 32, 70, 50, 47, 57, 43, 32, 69, 50, 47, 48, 43, 32, 68, 50, 47, 48, 43, 32, 67, 50, 47, 48, 43, 32, 66, 49, 47, 48, 43, 32, 65, 49, 47, 48, 43, 32, 58, 32, 49, 32, 50, 32, 51, 32, 52, 32, 53, 32, 54, 32, 55, 32, 56, 32, 57], [65, 51, 47, 56, 32, 69, 51, 47, 56, 32, 66, 51, 47, 56, 32, 71, 51, 47, 56, 32, 68, 51, 47, 56, 32, 65, 50, 47, 56, 32, 71, 50, 47, 48, 32, 70, 50, 47, 48, 32, 69, 50, 47, 48, 32, 68, 50, 47, 48, 32, 67, 50, 47, 48, 32, 66, 49, 47, 48, 32, 65, 49, 47, 48, 32, 71, 49, 47, 48, 32, 58, 32, 49, 32, 50, 32, 51, 32, 52, 32, 53, 32, 54, 32, 55, 32, 56], [71, 52, 47, 49, 48, 32, 68, 52, 47, 49, 48, 32, 65, 51, 47, 49, 48, 32, 70, 51, 47, 49, 48, 32, 67, 51, 47, 49, 48, 32, 71, 50, 47, 49, 48, 32, 58, 32, 49, 32, 50, 32, 51, 32, 52, 32, 53, 32, 54, 32, 55, 32, 56, 32, 57, 32, 49, 48], [65, 52, 47, 56, 32, 69, 52, 47, 56, 32, 67, 52, 47, 56, 32, 71, 51, 47, 56, 43, 32, 58, 32, 49, 32, 50, 32, 51, 32, 52, 32, 53, 32, 54, 32, 55, 32, 56], [69, 52, 47, 56, 32, 66, 51, 47, 56, 32, 71, 51, 47, 56, 32, 68, 52, 47, 56, 32, 65, 51, 47, 56, 32, 58, 32, 49, 32, 50, 32, 51, 32, 52, 32, 53, 32, 54, 32, 55, 32, 56], [69, 52, 47, 57, 32, 68, 52, 47, 57, 32, 71, 51, 47, 57, 32, 66, 51, 47, 57, 32, 58, 32, 50, 32, 51, 32, 52, 32, 53, 32, 55, 32, 57, 32, 49, 48, 32, 49, 49, 32, 49, 50]].getD n []
def stt (n : Nat) : ByteArray := ⟨(sttB n).toArray⟩

/-- What stands for an accidental in a name. -/
def altB (a : Int) : List UInt8 := if a = -1 then [98] else if a = 1 then [35] else []

end Go.Proofs.YtjobablfojnppaaDoor

/- Plain functions on bytes that say how the document reads the name of a note and a number. No program is imported here. -/
namespace Go.Proofs.YtjobablfojnppaaDoor

def isDig (c : UInt8) : Bool := decide (48 ≤ c.toNat) && decide (c.toNat ≤ 57)
/-- The octave of a name, if it is one. -/
def pOct (t : List UInt8) : Option Int :=
  if t = [45, 49] then some (-1) else match t with
    | [c] => if isDig c then some ((c.toNat : Int) - 48) else none
    | _ => none
/-- The accidental at the head, and what is left. -/
def pAlt : List UInt8 → Int × List UInt8
  | 98 :: r => (-1, r)
  | 35 :: r => (1, r)
  | r => (0, r)
def ltrOf (c : UInt8) : Option Nat := if c = 67 then some 0 else if c = 68 then some 1 else if c = 69 then some 2 else if c = 70 then some 3 else if c = 71 then some 4 else if c = 65 then some 5 else if c = 66 then some 6 else none
/-- The parts of a name, if it has the form of one. -/
def pForm : List UInt8 → Option (Nat × Int × Int)
  | [] => none
  | c :: r => (ltrOf c).bind fun n => (pOct (pAlt r).2).map fun o => (n, (pAlt r).1, o)

end Go.Proofs.YtjobablfojnppaaDoor

/- Plain functions that say when an instrument is valid and what its places sound. No program is imported here. -/
namespace Go.Proofs.YtjobablfojnppaaDoor

structure Cr where
  p : Int
  f : Int
  o : Bool

def riseB : Int → List Int → Bool
  | _, [] => true
  | b, s :: r => !decide (s ≤ b) && !decide (127 < s) && riseB s r
/-- The semitones from the open string to a fret. -/
def riseV (S : List Int) (f : Int) : Int := if f = 0 then 0 else S.getD (f - 1).toNat 0
def crTop (S : List Int) (c : Cr) : Int := c.p + riseV S c.f + if c.o then 12 else 0
def crErr (S : List Int) (c : Cr) : Int := if c.f < 0 ∨ (S.length : Int) < c.f then 13 else if isP c.p = false then 10 else if 127 < crTop S c then 10 else 0
def crsErr (S : List Int) : List Cr → Int
  | [] => 0
  | c :: r => if crErr S c = 0 then crsErr S r else crErr S c
def chk (C : List Cr) (S : List Int) : Int :=
  if 14 < C.length ∨ 18 < S.length then 2 else if C.length = 0 ∨ riseB 0 S = false then 11 else crsErr S C

theorem riseB_bd : ∀ (S : List Int) (b : Int), riseB b S = true → ∀ s ∈ S, b < s ∧ s ≤ 127
  | [], _, _, s, hs => by cases hs
  | x :: r, b, h, s, hs => by
    simp [riseB] at h
    rcases List.mem_cons.1 hs with rfl | hs
    · exact ⟨by omega, by omega⟩
    · have := riseB_bd r x h.2 s hs
      omega
theorem riseV_bd {S : List Int} {f : Int} (h : riseB 0 S = true) (h0 : 0 ≤ f) (h1 : f ≤ S.length) : 0 ≤ riseV S f ∧ riseV S f ≤ 127 := by
  unfold riseV
  split
  · omega
  · have hlt : (f - 1).toNat < S.length := by omega
    have hg : S.getD (f - 1).toNat 0 = S[(f - 1).toNat] := by rw [List.getD_eq_getElem?_getD, List.getElem?_eq_getElem hlt]; rfl
    rw [hg]
    have := riseB_bd S 0 h _ (List.getElem_mem hlt)
    omega

end Go.Proofs.YtjobablfojnppaaDoor

/- Plain functions: the places that sound a pitch, as both the program and its reference find them. No program is imported here. -/
namespace Go.Proofs.YtjobablfojnppaaDoor

/-- From fret q on, k frets: those of course i that sound p. -/
def frsL (S : List Int) (x : Cr) (p : Int) (i : Nat) : Nat → Nat → List (Int × Int)
  | _, 0 => []
  | q, k + 1 => (if x.p + riseV S q = p then [((i : Int), (q : Int))] else []) ++ frsL S x p i (q + 1) k
/-- The courses from the i-th on (from 0). -/
def plsL (S : List Int) (p : Int) : Nat → List Cr → List (Int × Int)
  | _, [] => []
  | i, x :: r => frsL S x p (i + 1) 0 (x.f.toNat + 1) ++ plsL S p (i + 1) r
def plE (C : List Cr) (S : List Int) (p : Int) : Int := if chk C S ≠ 0 then chk C S else if isP p = false then 10 else 0
def plL (C : List Cr) (S : List Int) (p : Int) : List (Int × Int) := if plE C S p = 0 then plsL S p 0 C else []
theorem pl_chk {C : List Cr} {S : List Int} {p : Int} (h : chk C S ≠ 0) : plE C S p = chk C S ∧ plL C S p = [] := by
  have : plE C S p = chk C S := by rw [plE, if_pos h]
  exact ⟨this, by rw [plL, if_neg (by rw [this]; exact h)]⟩
theorem pl_pitch {C : List Cr} {S : List Int} {p : Int} (h : chk C S = 0) (h2 : isP p = false) : plE C S p = 10 ∧ plL C S p = [] := by
  have : plE C S p = 10 := by rw [plE, if_neg (by rw [h]; simp), if_pos h2]
  exact ⟨this, by rw [plL, if_neg (by rw [this]; decide)]⟩
theorem pl_ok {C : List Cr} {S : List Int} {p : Int} (h : chk C S = 0) (h2 : isP p = true) : plE C S p = 0 ∧ plL C S p = plsL S p 0 C := by
  have : plE C S p = 0 := by rw [plE, if_neg (by rw [h]; simp), if_neg (by rw [h2]; simp)]
  exact ⟨this, by rw [plL, if_pos this]⟩

theorem frsL_len (S : List Int) (x : Cr) (p : Int) (i : Nat) : ∀ (k q : Nat), (frsL S x p i q k).length ≤ k
  | 0, _ => by simp [frsL]
  | k + 1, q => by
    have := frsL_len S x p i k (q + 1)
    unfold frsL
    split <;> simp <;> omega
theorem plsL_len (S : List Int) (p : Int) (F : Nat) : ∀ (C : List Cr) (i : Nat), (∀ x ∈ C, x.f.toNat ≤ F) → (plsL S p i C).length ≤ C.length * (F + 1)
  | [], _, _ => by simp [plsL]
  | x :: r, i, h => by
    have h1 := frsL_len S x p (i + 1) (x.f.toNat + 1) 0
    have h2 := plsL_len S p F r (i + 1) fun y hy => h y (by simp [hy])
    have h3 := h x (by simp)
    unfold plsL
    rw [List.length_append, List.length_cons, Nat.add_mul]
    omega

end Go.Proofs.YtjobablfojnppaaDoor
