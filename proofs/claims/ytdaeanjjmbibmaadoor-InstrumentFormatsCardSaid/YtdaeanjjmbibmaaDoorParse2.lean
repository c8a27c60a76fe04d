/- What the program's Parse returns for any text. -/
import Derived.Test.YtdaeanjjmbibmaaDoorParse
import Derived.Test.YtdaeanjjmbibmaaDoorInst
namespace Go.Proofs.YtdaeanjjmbibmaaDoor
open Go.RowKit

def crOf (x : List UInt8) : Cr := ⟨crsP x, crsF x, crsO x⟩
def crsFE : List (List UInt8) → Int
  | [] => 0
  | x :: r => if crsE x = 0 then crsFE r else crsE x
def stpFE : List (List UInt8) → Int
  | [] => 0
  | x :: r => if numB x then stpFE r else 4
def preW (l : List UInt8) : List (List UInt8) := (wrd l).take (preOf (wrd l))
def postW (l : List UInt8) : List (List UInt8) := (wrd l).drop (preOf (wrd l) + 1)
def rawC (l : List UInt8) : List Cr := (preW l).map crOf
def rawS (l : List UInt8) : List Int := (postW l).map numV
/-- The error of a text; the instrument that it says. -/
def prsE (l : List UInt8) : Int :=
  if (wrd l).length ≤ preOf (wrd l) then 4 else if crsFE (preW l) ≠ 0 then crsFE (preW l) else if stpFE (postW l) ≠ 0 then 4 else chk (rawC l) (rawS l)
def prsC (l : List UInt8) : List Cr := if prsE l = 0 then rawC l else []
def prsS (l : List UInt8) : List Int := if prsE l = 0 then rawS l else []

abbrev ParsePost (l : List UInt8) (w : World) (e : Ending) (w' : World) : Prop := InPost (prsC l) (prsS l) (prsE l) w e w'

def wObj (l : List UInt8) : Obj := .cells (strC (wrd l)).toArray 9

theorem parsePost_err {l : List UInt8} {w w' : World} (h : prsE l ≠ 0) (hb : Below w.heap.size w w') : ParsePost l w (.returned (.tuple #[.agg #[.slice none 0 0, .slice none 0 0], .int .i64 (prsE l)])) w' := by
  have := inPost_err (er := prsE l) hb
  unfold ParsePost
  rw [prsC, if_neg h, prsS, if_neg h]
  exact this
theorem wrd_len : ∀ l : List UInt8, (wrd l).length ≤ l.length + 1
  | [] => by simp [wrd]
  | c :: r => by
    have := wrd_len r
    unfold wrd
    split
    · simp; omega
    · split
      · simp
      · rename_i x xs hx; rw [hx] at this; simp at this ⊢; omega

theorem words_cell (l : List UInt8) (w : World) (j : Nat) : ((w.alloc zIn).alloc (.cells (strC (wrd l)).toArray 9)).cell? ⟨w.heap.size + 1, 0 + j, none⟩ = (strC (wrd l))[j]? := by
  simp
theorem mark_any (l : List UInt8) (w : World) (hN : (wrd l).length ≤ 9223372036854775807) :
    Calls Tryd.prog 60 #[.slice (some ⟨w.heap.size + 1, 0, none⟩) (wrd l).length (wrd l).length, .string ⟨#[58]⟩] ((w.alloc zIn).alloc (.cells (strC (wrd l)).toArray 9)) fun e w' => e = .returned (.int .i64 (if preOf (wrd l) < (wrd l).length then (preOf (wrd l) : Int) else -1)) ∧ (w.alloc zIn).alloc (.cells (strC (wrd l)).toArray 9) = w' :=
  index_any (wrd l) (w.heap.size + 1) (wrd l).length _ hN fun j _ hu => (words_cell l w j).trans hu

set_option maxHeartbeats 1600000 in
theorem parse_nomark (l : List UInt8) (w : World) (E : Env w) (hs : l.length < 4294967200) (h : (wrd l).length ≤ preOf (wrd l)) :
    Calls Tryd.prog 27 #[.string ⟨l.toArray⟩] w (ParsePost l w) := by
  have he : prsE l = 4 := by rw [prsE, if_pos h]
  have H := Lib.hid he
  have hN : (wrd l).length ≤ 9223372036854775807 := by have := wrd_len l; omega
  have HI := Lib.hid (mark_any l w hN)
  have HV : Hid ((if preOf (wrd l) < (wrd l).length then (preOf (wrd l) : Int) else -1) = -1) := if_neg (by omega)
  have HS := Lib.hid hs
  have E1 := E.alloc zIn
  clear he h hs
  go_enter Tryd.func27, Tryd.ntmps27
  go_wp2_with (first | (go_at_call 59; refine (split_any l _ E1 (by have := HS.out; omega)).mono ?_; rintro e w1 ⟨rfl, rfl⟩) | (go_at_call 60; refine HI.out.mono ?_; rintro e w1 ⟨rfl, rfl⟩; rw [HV.out]))
  refine bodyPost_ret (v := .tuple #[.agg #[.slice none 0 0, .slice none 0 0], .int .i64 4]) ?_ rfl ?_
  · simp [results, Tryd.results27, go_sem]
    done
  · rw [← H.out]
    refine parsePost_err (by rw [H.out]; decide) ?_
    exact bal (ba _ _) _

end Go.Proofs.YtdaeanjjmbibmaaDoor
