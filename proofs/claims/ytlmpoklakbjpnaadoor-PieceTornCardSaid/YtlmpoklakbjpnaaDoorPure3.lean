/- Plain functions that say when an instrument is valid and what its places sound. No program is imported here. -/
import Derived.Test.YtlmpoklakbjpnaaDoorPure2
namespace Go.Proofs.YtlmpoklakbjpnaaDoor

structure Cr where
  p : Int
  f : Int
  o : Bool

def riseB : Int → List Int → Bool
  | _, [] => true
  | b, s :: r => !decide (s ≤ b) && !decide (127 < s) && riseB s r
/-- The semitones from the open string to a fret. -/
def riseV (S : List Int) (f : Int) : Int := if f = 0 then 0 else S.getD (f - 1).toNat 0
def crTop (S : List Int) (c : Cr) : Int := c.p + riseV S c.f + if c.o then 12 else 0
def crErr (S : List Int) (c : Cr) : Int := if c.f < 0 ∨ (S.length : Int) < c.f then 13 else if isP c.p = false then 10 else if 127 < crTop S c then 10 else 0
def crsErr (S : List Int) : List Cr → Int
  | [] => 0
  | c :: r => if crErr S c = 0 then crsErr S r else crErr S c
def chk (C : List Cr) (S : List Int) : Int :=
  if 14 < C.length ∨ 18 < S.length then 2 else if C.length = 0 ∨ riseB 0 S = false then 11 else crsErr S C

theorem riseB_bd : ∀ (S : List Int) (b : Int), riseB b S = true → ∀ s ∈ S, b < s ∧ s ≤ 127
  | [], _, _, s, hs => by cases hs
  | x :: r, b, h, s, hs => by
    simp [riseB] at h
    rcases List.mem_cons.1 hs with rfl | hs
    · exact ⟨by omega, by omega⟩
    · have := riseB_bd r x h.2 s hs
      omega
theorem riseV_bd {S : List Int} {f : Int} (h : riseB 0 S = true) (h0 : 0 ≤ f) (h1 : f ≤ S.length) : 0 ≤ riseV S f ∧ riseV S f ≤ 127 := by
  unfold riseV
  split
  · omega
  · have hlt : (f - 1).toNat < S.length := by omega
    have hg : S.getD (f - 1).toNat 0 = S[(f - 1).toNat] := by rw [List.getD_eq_getElem?_getD, List.getElem?_eq_getElem hlt]; rfl
    rw [hg]
    have := riseB_bd S 0 h _ (List.getElem_mem hlt)
    omega

end Go.Proofs.YtlmpoklakbjpnaaDoor
