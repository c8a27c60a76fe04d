/- What SamePlaces returns at two equal lists. -/
import Derived.Test.YtdaeanjjmbibmaaDoorRefPlaces
namespace Go.Proofs.YtdaeanjjmbibmaaDoor
open Go.RowKit

theorem plC_at : ∀ (L : List (Int × Int)) (k : Nat), k < L.length → (plC L)[k * 2]? = some (.int .i64 (L.getD k (0, 0)).1) ∧ (plC L)[k * 2 + 1]? = some (.int .i64 (L.getD k (0, 0)).2)
  | c :: r, 0, _ => ⟨rfl, rfl⟩
  | c :: r, k + 1, h => by
    have := plC_at r k (by simpa using h)
    have e : plC (c :: r) = .int .i64 c.1 :: .int .i64 c.2 :: plC r := rfl
    rw [e, show (k + 1) * 2 = k * 2 + 2 from by omega]
    exact this

/-- The argument's block, in whatever world lies above it. -/
theorem args1 {w : World} {A : Option Addr} {n c : Nat} {A' : Option Addr} {m c' : Nat} {w' : World} (h : Below (w.alloc (iObj A n c A' m c')).heap.size (w.alloc (iObj A n c A' m c')) w') :
    w'.cell? ⟨w.heap.size, 0, none⟩ = some (.slice A n c) ∧ w'.cell? ⟨w.heap.size, 1, none⟩ = some (.slice A' m c') ∧ w.heap.size < w'.heap.size ∧ Below (w.alloc (iObj A n c A' m c')).heap.size (w.alloc (iObj A n c A' m c')) w' := by
  obtain ⟨c0, _⟩ := keepb h 0
  obtain ⟨c1, _⟩ := keepb h 1
  have hz := h.size
  simp at c0 c1 hz
  exact ⟨c0, c1, by omega, h⟩

end Go.Proofs.YtdaeanjjmbibmaaDoor
