/- Pieces: slices.Grow and slices.Concat of events; changed with cloneEvent. -/
import Derived.Test.YtdhjigaocamglaaDoorQdRr2
import Derived.Lib.AppendZeros
import Derived.Laws.OwnMore
namespace Go.Proofs.YtdhjigaocamglaaDoor
open Go Go.RowKit

theorem evC_append (E F : List EvT) : evC (E ++ F) = evC E ++ evC F := by simp [evC]
theorem evC_one (E : List EvT) : ∀ u ∈ evC E, u.oneCell' = true := fun u hu => by
  simp only [evC, List.mem_flatMap] at hu
  obtain ⟨x, _, hu⟩ := hu
  simp at hu
  (repeat' (rcases hu with rfl | hu)) <;> first | rfl | (subst hu; rfl)
/-- The block's first events are filled. -/
def EvR (w wr : World) (g n : Nat) (E : List EvT) (k : Nat) : Prop :=
  Below w.heap.size w wr ∧ E.length = k ∧ ∃ Z : List Value, Z.length = (n - k) * 6 ∧ Blk wr g 51 (evC E ++ Z).toArray
theorem set6 (pre : List Value) (z0 z1 z2 z3 z4 z5 a0 a1 a2 a3 a4 a5 : Value) (post : List Value) (l : Nat) (hl : pre.length = l) :
    ((((((pre ++ z0 :: z1 :: z2 :: z3 :: z4 :: z5 :: post).set l a0).set (l + 1) a1).set (l + 2) a2).set (l + 3) a3).set (l + 4) a4).set (l + 5) a5 = pre ++ a0 :: a1 :: a2 :: a3 :: a4 :: a5 :: post := by
  subst hl
  have e0 : ∀ (q : List Value) (j : Nat) (v : Value), (pre ++ q).set (pre.length + j) v = pre ++ q.set j v := fun q j v => by
    rw [List.set_append_right _ _ (by omega), Nat.add_sub_cancel_left]
  have e1 : ∀ (q : List Value) (v : Value), (pre ++ q).set pre.length v = pre ++ q.set 0 v := fun q v => e0 q 0 v
  rw [e1, e0, e0, e0, e0, e0]
  rfl
set_option maxHeartbeats 1600000 in
theorem EvR.step {w wr : World} {g n : Nat} {E : List EvT} {k : Nat} (x : EvT) (h : EvR w wr g n E k) (hg : w.heap.size ≤ g) (hk : k < n) :
    (∃ u, wr.cell? ⟨g, k * 6, none⟩ = some u) ∧ (∃ u, wr.cell? ⟨g, k * 6 + 1, none⟩ = some u) ∧ (∃ u, wr.cell? ⟨g, k * 6 + 2, none⟩ = some u) ∧ (∃ u, wr.cell? ⟨g, k * 6 + 3, none⟩ = some u) ∧ (∃ u, wr.cell? ⟨g, k * 6 + 4, none⟩ = some u) ∧ (∃ u, wr.cell? ⟨g, k * 6 + 5, none⟩ = some u) ∧ (∀ j, wr.frozen? ⟨g, j, none⟩ = false) ∧ g < wr.heap.size ∧
      EvR w ((((((wr.setCell ⟨g, k * 6, none⟩ (.bool x.bar)).setCell ⟨g, k * 6 + 1, none⟩ (.int .i64 x.v)).setCell ⟨g, k * 6 + 2, none⟩ (.bool x.d)).setCell ⟨g, k * 6 + 3, none⟩ (.bool x.t)).setCell ⟨g, k * 6 + 4, none⟩ (.bool x.tie)).setCell ⟨g, k * 6 + 5, none⟩ (.slice x.sa x.sn x.sc)) g n (E ++ [x]) (k + 1) := by
  obtain ⟨hb, hE, Z, hZ, hB⟩ := h
  have hpl : (evC E).length = k * 6 := by rw [evC_len, hE]
  obtain ⟨z0, z1, z2, z3, z4, z5, Z', rfl⟩ : ∃ z0 z1 z2 z3 z4 z5 Z', Z = z0 :: z1 :: z2 :: z3 :: z4 :: z5 :: Z' := by
    match Z, hZ with
    | [], hZ => simp at hZ; omega
    | [_], hZ => simp at hZ; omega
    | [_, _], hZ => simp at hZ; omega
    | [_, _, _], hZ => simp at hZ; omega
    | [_, _, _, _], hZ => simp at hZ; omega
    | [_, _, _, _, _], hZ => simp at hZ; omega
    | z0 :: z1 :: z2 :: z3 :: z4 :: z5 :: Z', _ => exact ⟨z0, z1, z2, z3, z4, z5, Z', rfl⟩
  have c : ∀ j, wr.cell? ⟨g, k * 6 + j, none⟩ = (z0 :: z1 :: z2 :: z3 :: z4 :: z5 :: Z')[j]? := fun j => by
    rw [hB.cell (k * 6 + j), List.getElem?_toArray, List.getElem?_append_right (by omega), hpl, Nat.add_sub_cancel_left]
  refine ⟨⟨z0, c 0⟩, ⟨z1, c 1⟩, ⟨z2, c 2⟩, ⟨z3, c 3⟩, ⟨z4, c 4⟩, ⟨z5, c 5⟩, fun j => hB.frozen j, hB.lt, (((((hb.setCell hg _).setCell hg _).setCell hg _).setCell hg _).setCell hg _).setCell hg _, by simp [hE], Z', by simp at hZ; omega, ?_⟩
  have h2 := (((((hB.set_ (k * 6) (.bool x.bar)).set_ (k * 6 + 1) (.int .i64 x.v)).set_ (k * 6 + 2) (.bool x.d)).set_ (k * 6 + 3) (.bool x.t)).set_ (k * 6 + 4) (.bool x.tie)).set_ (k * 6 + 5) (.slice x.sa x.sn x.sc)
  rw [List.setIfInBounds_toArray, List.setIfInBounds_toArray, List.setIfInBounds_toArray, List.setIfInBounds_toArray, List.setIfInBounds_toArray, List.setIfInBounds_toArray, set6 _ _ _ _ _ _ _ _ _ _ _ _ _ _ _ hpl] at h2
  rw [evC_snoc, List.append_assoc]
  exact h2

end Go.Proofs.YtdhjigaocamglaaDoor
