/- Pieces: the reference's first error of an event. -/
import Derived.Test.YtdhjigaocamglaaDoorQaPcCk
import Derived.Test.YtdhjigaocamglaaDoorQaPcLongR
import Derived.Test.YtdhjigaocamglaaDoorQaPcTime
import Derived.Deep.RegionHeld3
namespace Go.Proofs.YtdhjigaocamglaaDoor
open Go Go.RowKit

def ErrIf (x bf : Int) (i : Nat) (sf sr sgr sh : Int) (lg : Nat) : Prop := x = if (i : Int) + 1 ≤ bf then 22 else if sr < 0 ∨ 3 < sr ∨ sgr < 0 ∨ 4 < sgr then 23 else if sh < 0 ∨ (lg : Int) < sh ∨ (0 < sh ∧ sf = 0) then 24 else 0
theorem ErrIf.eq {x bf : Int} {i : Nat} {sf sr sgr sh : Int} {lg : Nat} (h : ErrIf x bf i sf sr sgr sh lg) : x = if (i : Int) + 1 ≤ bf then 22 else if sr < 0 ∨ 3 < sr ∨ sgr < 0 ∨ 4 < sgr then 23 else if sh < 0 ∨ (lg : Int) < sh ∨ (0 < sh ∧ sf = 0) then 24 else 0 := h
def bfJ (L : List St) (j : Nat) : Int := if j = 0 then 0 else (L.getD (j - 1) z5).c
theorem argsR {w wr w1 : World} {o1 : Obj} {A : Option Addr} {n c : Nat} {A' : Option Addr} {m c' : Nat} {A2 : Option Addr} {q cq : Nat} {v0 v1 v2 v3 v4 : Int} (hB : Below ((w.alloc (pcO A n c A' m c' A2 q cq)).alloc o1).heap.size ((w.alloc (pcO A n c A' m c' A2 q cq)).alloc o1) wr)
    (h : Below (wr.alloc (.cells #[.int .i64 v0, .int .i64 v1, .int .i64 v2, .int .i64 v3, .int .i64 v4] 62)).heap.size (wr.alloc (.cells #[.int .i64 v0, .int .i64 v1, .int .i64 v2, .int .i64 v3, .int .i64 v4] 62)) w1) :
    (w1.cell? ⟨w.heap.size, 0, none⟩ = some (.slice A n c) ∧ w1.cell? ⟨w.heap.size, 1, none⟩ = some (.slice A' m c') ∧ w1.cell? ⟨w.heap.size, 2, none⟩ = some (.slice A2 q cq)) ∧
    (w1.cell? ⟨wr.heap.size, 0, none⟩ = some (.int .i64 v0) ∧ w1.cell? ⟨wr.heap.size, 1, none⟩ = some (.int .i64 v1) ∧ w1.cell? ⟨wr.heap.size, 2, none⟩ = some (.int .i64 v2) ∧ w1.cell? ⟨wr.heap.size, 3, none⟩ = some (.int .i64 v3) ∧ w1.cell? ⟨wr.heap.size, 4, none⟩ = some (.int .i64 v4)) :=
  ⟨cell3 (bt (ba _ _) (bt hB (bx h))), cell5 h⟩

end Go.Proofs.YtdhjigaocamglaaDoor
