/- Pieces: Append of the program. -/
import Derived.Test.YtdhjigaocamglaaDoorQcAp1
import Derived.Test.YtdhjigaocamglaaDoorQcRr4
import Derived.Deep.RegionHeldLaw
import Derived.Deep.RegionLaw
namespace Go.Proofs.YtdhjigaocamglaaDoor
open Go Go.RowKit

end Go.Proofs.YtdhjigaocamglaaDoor

/- Pieces: Append of the reference. -/
namespace Go.Proofs.YtdhjigaocamglaaDoor
open Go Go.RowKit

theorem cpe_append {w : World} {b : Nat} {E F : List EvT} {P Q : List EvP} (h1 : CpE w b E P) (h2 : CpE w b F Q) (hl : E.length = P.length) : CpE w b (E ++ F) (P ++ Q) := fun j x y hx hy => by
  by_cases hj : j < E.length
  · rw [List.getElem?_append_left hj] at hx
    rw [List.getElem?_append_left (by omega)] at hy
    exact h1 j x y hx hy
  · rw [List.getElem?_append_right (by omega)] at hx hy
    rw [← hl] at hy
    exact h2 _ x y hx hy
end Go.Proofs.YtdhjigaocamglaaDoor
