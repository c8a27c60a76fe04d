/- Plain functions on bytes that say how the document reads the name of a note and a number. No program is imported here. -/
import Derived.Test.YtlmpoklakbjpnaaDoorPure
namespace Go.Proofs.YtlmpoklakbjpnaaDoor

def isDig (c : UInt8) : Bool := decide (48 ≤ c.toNat) && decide (c.toNat ≤ 57)
/-- The octave of a name, if it is one. -/
def pOct (t : List UInt8) : Option Int :=
  if t = [45, 49] then some (-1) else match t with
    | [c] => if isDig c then some ((c.toNat : Int) - 48) else none
    | _ => none
/-- The accidental at the head, and what is left. -/
def pAlt : List UInt8 → Int × List UInt8
  | 98 :: r => (-1, r)
  | 35 :: r => (1, r)
  | r => (0, r)
def ltrOf (c : UInt8) : Option Nat := if c = 67 then some 0 else if c = 68 then some 1 else if c = 69 then some 2 else if c = 70 then some 3 else if c = 71 then some 4 else if c = 65 then some 5 else if c = 66 then some 6 else none
/-- The parts of a name, if it has the form of one. -/
def pForm : List UInt8 → Option (Nat × Int × Int)
  | [] => none
  | c :: r => (ltrOf c).bind fun n => (pOct (pAlt r).2).map fun o => (n, (pAlt r).1, o)

end Go.Proofs.YtlmpoklakbjpnaaDoor
