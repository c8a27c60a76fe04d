/- The reference's list of all signs. -/
import Derived.Test.YtdhjigaocamglaaDoorQaSgP
import Derived.Test.YtdhjigaocamglaaDoorQaWorks2
import Derived.Test.YtdhjigaocamglaaDoorQaOnsets
import Derived.Test.YtdhjigaocamglaaDoorQaPcTime
namespace Go.Proofs.YtdhjigaocamglaaDoor
open Go Go.RowKit

theorem Own1.stepN {W1 wr w2 w3 : World} {e : TypeId} {size m : Nat} {A : Option Addr} {k c : Nat} {xs ys : List Value} {v' : Value} {O : Obj} {B : Nat} (h : Own1 W1 wr e size A k c xs) (hb : Below wr.heap.size wr w2) (hB : B = W1.heap.size)
    (hown : w3.ownsRow B e size v' m ys) (hg : (w2.alloc O).grownBy w3 (Value.slice A k c).ownBlock) : ∃ A' c', v' = .slice A' m c' ∧ Own1 W1 w3 e size A' m c' ys := by
  subst hB
  obtain ⟨A', c', rfl⟩ := own_slice hown
  have h2 := h.below hb
  refine ⟨A', c', rfl, hown, ?_⟩
  refine Below.grown (h2.low.alloc h2.low.size O) hg (h2.low.alloc h2.low.size O).size (fun g hh => ?_)
  exact (h.own.lt g hh).1

def alL (n : Nat) : List Value := (List.range n).flatMap sgL
end Go.Proofs.YtdhjigaocamglaaDoor
