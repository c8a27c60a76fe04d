/- Notation: the address of an embedded field without cells. -/
import Derived.Test.YtdaeanjjmbibmaaNt3
namespace Go.Proofs.Ytdaeanjjmbibmaa
open Go

theorem part0 (w : World) : (partAt ⟨w.heap.size, 0, none⟩ 0 0).run Try.prog (w.alloc (.cells #[] 77)) = .ok ⟨w.heap.size, 0, none⟩ (w.alloc (.cells #[] 77)) := by
  have hc : Try.prog.cellsOf 77 = 0 := by kernel_rfl
  have hs : (w.alloc (.cells #[] 77)).shape? w.heap.size = some (77, 0) := by
    have hg : (w.alloc (.cells #[] 77)).heap[w.heap.size]? = some (.cells #[] 77) := by
      show (w.heap.push _)[w.heap.size]? = _
      exact Array.getElem?_push_size
    unfold World.shape?
    rw [hg]
    rfl
  have hv : (viewAt w.heap.size).run Try.prog (w.alloc (.cells #[] 77)) = .ok none (w.alloc (.cells #[] 77)) := by simp [viewAt, go_sem, hs]
  simp [partAt, byteOf, noView, go_sem, hc, hs, hv]

end Go.Proofs.Ytdaeanjjmbibmaa
