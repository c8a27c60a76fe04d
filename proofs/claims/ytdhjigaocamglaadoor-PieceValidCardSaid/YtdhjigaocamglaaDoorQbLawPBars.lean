/- The law PieceBars returns true for every piece and distance. -/
import Derived.Test.YtdhjigaocamglaaDoorQbLawPRw
import Derived.Test.YtdhjigaocamglaaDoorQbCmp9C
import Derived.Test.YtdhjigaocamglaaDoorQbBk5
import Derived.Test.YtdhjigaocamglaaDoorQbSameI2
import Derived.Test.YtdhjigaocamglaaDoorQbWorks2
import Derived.Deep.CutRange
import Derived.Deep.RegionHeld3
namespace Go.Proofs.YtdhjigaocamglaaDoor
open Go Go.RowKit

theorem brRes_L {bar : Int} {P : List EvP} {C : List Cr} {S : List Int} (h0 : pcErr C S P = 0) (he : brErr 0 bar P = 0) {N : Nat} (h : ∀ y ∈ P, y.L.length ≤ N) : ∀ y ∈ brRes bar P, y.L.length ≤ N := by
  unfold brRes
  have hb : 1 ≤ bar := (bars_ok h0 he).1
  cases ha : brAll bar P with
  | none => intro y hy; cases hy
  | some a =>
    dsimp only
    have hI := break_own h0 hb ha
    refine mvL_Lc h P.length a.ev (fun y hy => ?_)
    obtain ⟨j, hj, rfl⟩ := List.getElem_of_mem hy
    rw [(hI.ev j _ (List.getElem?_eq_getElem hj)).1]
    exact Nat.zero_le _

end Go.Proofs.YtdhjigaocamglaaDoor
