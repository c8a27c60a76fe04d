/- What the program's Tune and Transpose return for any instrument. -/
import Derived.Test.YtdaeanjjmbibmaaDoorTune
namespace Go.Proofs.YtdaeanjjmbibmaaDoor
open Go.RowKit

theorem blk_res (w : World) (A : Option Addr) (n c : Nat) (A' : Option Addr) (m c' : Nat) : Blk ((w.alloc (iObj A n c A' m c')).alloc zIn) (w.heap.size + 1) 25 #[.slice none 0 0, .slice none 0 0] := by
  have := heap_alloc_new (w.alloc (iObj A n c A' m c')) zIn
  rw [show (w.alloc (iObj A n c A' m c')).heap.size = w.heap.size + 1 by simp] at this
  exact this
/-- The argument's block and the result's, in whatever world lies above them. -/
theorem argsR {w : World} {A : Option Addr} {n c : Nat} {A' : Option Addr} {m c' : Nat} {w' : World} (h : Below ((w.alloc (iObj A n c A' m c')).alloc zIn).heap.size ((w.alloc (iObj A n c A' m c')).alloc zIn) w') :
    w'.cell? ⟨w.heap.size, 0, none⟩ = some (.slice A n c) ∧ w'.cell? ⟨w.heap.size, 1, none⟩ = some (.slice A' m c') ∧ w'.cell? ⟨w.heap.size + 1, 0, none⟩ = some (.slice none 0 0) ∧ w'.cell? ⟨w.heap.size + 1, 1, none⟩ = some (.slice none 0 0) ∧
      w'.frozen? ⟨w.heap.size + 1, 0, none⟩ = false ∧ w'.frozen? ⟨w.heap.size + 1, 1, none⟩ = false ∧ w.heap.size + 1 < w'.heap.size ∧ Below w.heap.size w w' := by
  obtain ⟨c0, _⟩ := keepb (bt (ba _ _) h) 0
  obtain ⟨c1, _⟩ := keepb (bt (ba _ _) h) 1
  have hB := (blk_res w A n c A' m c').below h
  exact ⟨by simpa using c0, by simpa using c1, hB.cell 0, hB.cell 1, hB.frozen 0, hB.frozen 1, hB.lt, bx (bt (ba _ _) h)⟩

end Go.Proofs.YtdaeanjjmbibmaaDoor
