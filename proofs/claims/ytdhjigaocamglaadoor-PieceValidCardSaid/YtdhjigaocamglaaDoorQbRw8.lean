/- Pieces: the function that Augment hands to rewrite. -/
import Derived.Test.YtdhjigaocamglaaDoorQbRw6
import Derived.RegionTactic
namespace Go.Proofs.YtdhjigaocamglaaDoor
open Go Go.RowKit

end Go.Proofs.YtdhjigaocamglaaDoor

/- Pieces: Augment of the program, for any piece and number. -/
namespace Go.Proofs.YtdhjigaocamglaaDoor
open Go Go.RowKit

theorem box3 (W : World) (c1 c2 c3 : Array Value) (T1 T2 T3 : TypeId) : Blk (((W.alloc (.cells c1 T1)).alloc (.cells c2 T2)).alloc (.cells c3 T3)) W.heap.size T1 c1 ∧ Blk (((W.alloc (.cells c1 T1)).alloc (.cells c2 T2)).alloc (.cells c3 T3)) (W.heap.size + 1) T2 c2 ∧ Blk (((W.alloc (.cells c1 T1)).alloc (.cells c2 T2)).alloc (.cells c3 T3)) (W.heap.size + 2) T3 c3 ∧
    Below W.heap.size W (((W.alloc (.cells c1 T1)).alloc (.cells c2 T2)).alloc (.cells c3 T3)) := by
  obtain ⟨h1, h2⟩ := box2 W c1 c2 T1 T2
  have h3 := heap_alloc_new ((W.alloc (.cells c1 T1)).alloc (.cells c2 T2)) (.cells c3 T3)
  rw [World.size_alloc, World.size_alloc] at h3
  exact ⟨h1.below (ba _ _), h2.below (ba _ _), h3, bt (ba _ _) (bt (ba _ _) (ba _ _))⟩
/-- An error's way out: the result's block r is made empty. -/
theorem err_retR {fn : Func} {a : Act} (w W1 : World) (r : Nat) (hr : w.heap.size ≤ r) (X : Int) {C : List Cr} {S : List Int} {P : List EvP} (hb : Below w.heap.size w W1) (hX : X ≠ 0)
    (hrr : (results fn a.tmps).run Tryd.prog (((W1.setCell ⟨r, 0, none⟩ (.slice none 0 0)).setCell ⟨r, 1, none⟩ (.slice none 0 0)).setCell ⟨r, 2, none⟩ (.slice none 0 0)) = .ok (.tuple #[pcV none 0 0 none 0 0 none 0 0, .int .i64 X]) (((W1.setCell ⟨r, 0, none⟩ (.slice none 0 0)).setCell ⟨r, 1, none⟩ (.slice none 0 0)).setCell ⟨r, 2, none⟩ (.slice none 0 0))) (hd : a.defers = [] := by rfl) :
    bodyPost Tryd.prog fn (PcRes X C S P w) .ret a (((W1.setCell ⟨r, 0, none⟩ (.slice none 0 0)).setCell ⟨r, 1, none⟩ (.slice none 0 0)).setCell ⟨r, 2, none⟩ (.slice none 0 0)) := by
  refine bodyPost_ret hrr hd ⟨none, 0, 0, none, 0, 0, none, 0, 0, rfl, ?_, ((hb.setCell (p := ⟨r, 0, none⟩) hr _).setCell (p := ⟨r, 1, none⟩) hr _).setCell (p := ⟨r, 2, none⟩) hr _⟩
  rw [oC_no hX, oC_no hX, oC_no hX]
  exact PcOw.nil_ _ _

end Go.Proofs.YtdhjigaocamglaaDoor
