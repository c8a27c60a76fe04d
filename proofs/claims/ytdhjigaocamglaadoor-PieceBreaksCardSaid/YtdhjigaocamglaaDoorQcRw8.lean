/- Pieces: the functions that Plain and Terse hand to rewrite. -/
import Derived.Test.YtdhjigaocamglaaDoorQcRw3
import Derived.RegionTactic
namespace Go.Proofs.YtdhjigaocamglaaDoor
open Go Go.RowKit

end Go.Proofs.YtdhjigaocamglaaDoor

/- Pieces: changed at stops, and the functions that Bare and Cut hand to rewrite. -/
namespace Go.Proofs.YtdhjigaocamglaaDoor
open Go Go.RowKit

theorem set5 (pre post : List Value) (a b c d e v0 v1 v2 v3 v4 : Value) (l : Nat) (hl : pre.length = l) : (((((pre ++ a :: b :: c :: d :: e :: post).set l v0).set (l + 1) v1).set (l + 2) v2).set (l + 3) v3).set (l + 4) v4 = pre ++ v0 :: v1 :: v2 :: v3 :: v4 :: post := by
  subst hl
  have e0 : ∀ (q : List Value) (j : Nat) (v : Value), (pre ++ q).set (pre.length + j) v = pre ++ q.set j v := fun q j v => by
    rw [List.set_append_right _ _ (by omega), Nat.add_sub_cancel_left]
  have e1 : ∀ (q : List Value) (v : Value), (pre ++ q).set pre.length v = pre ++ q.set 0 v := fun q v => e0 q 0 v
  rw [e1, e0, e0, e0, e0]
  rfl
theorem stC_snoc (L : List St) (s : St) : stC (L ++ [s]) = stC L ++ [.int .i64 s.c, .int .i64 s.f, .int .i64 s.r, .int .i64 s.g, .int .i64 s.h] := by simp [stC]
/-- The block's first k stops are filled. -/
def StR (w wr : World) (g n : Nat) (M : List St) (k : Nat) : Prop :=
  Below w.heap.size w wr ∧ ∃ Z : List Value, Z.length = (n - k) * 5 ∧ Blk wr g 62 (stC (M.take k) ++ Z).toArray
theorem StR.step {w wr : World} {g n : Nat} {M : List St} {k : Nat} {x : St} (h : StR w wr g n M k) (hg : w.heap.size ≤ g) (hk : k < n) (hM : k < M.length) (hx : M.getD k z5 = x) :
    (∃ u, wr.cell? ⟨g, k * 5, none⟩ = some u) ∧ (∃ u, wr.cell? ⟨g, k * 5 + 1, none⟩ = some u) ∧ (∃ u, wr.cell? ⟨g, k * 5 + 2, none⟩ = some u) ∧ (∃ u, wr.cell? ⟨g, k * 5 + 3, none⟩ = some u) ∧ (∃ u, wr.cell? ⟨g, k * 5 + 4, none⟩ = some u) ∧ (∀ j, wr.frozen? ⟨g, j, none⟩ = false) ∧ g < wr.heap.size ∧
      StR w (((((wr.setCell ⟨g, k * 5, none⟩ (.int .i64 x.c)).setCell ⟨g, k * 5 + 1, none⟩ (.int .i64 x.f)).setCell ⟨g, k * 5 + 2, none⟩ (.int .i64 x.r)).setCell ⟨g, k * 5 + 3, none⟩ (.int .i64 x.g)).setCell ⟨g, k * 5 + 4, none⟩ (.int .i64 x.h)) g n M (k + 1) := by
  obtain ⟨hb, Z, hZ, hB⟩ := h
  have hpl : (stC (M.take k)).length = k * 5 := by rw [stC_len, List.length_take, Nat.min_eq_left (by omega)]
  obtain ⟨z0, z1, z2, z3, z4, Z', rfl⟩ : ∃ z0 z1 z2 z3 z4 Z', Z = z0 :: z1 :: z2 :: z3 :: z4 :: Z' := by
    match Z, hZ with
    | [], hZ => simp at hZ; omega
    | [_], hZ => simp at hZ; omega
    | [_, _], hZ => simp at hZ; omega
    | [_, _, _], hZ => simp at hZ; omega
    | [_, _, _, _], hZ => simp at hZ; omega
    | z0 :: z1 :: z2 :: z3 :: z4 :: Z', _ => exact ⟨z0, z1, z2, z3, z4, Z', rfl⟩
  have c : ∀ j, wr.cell? ⟨g, k * 5 + j, none⟩ = (z0 :: z1 :: z2 :: z3 :: z4 :: Z')[j]? := fun j => by
    rw [hB.cell (k * 5 + j), List.getElem?_toArray, List.getElem?_append_right (by omega), hpl, Nat.add_sub_cancel_left]
  refine ⟨⟨z0, c 0⟩, ⟨z1, c 1⟩, ⟨z2, c 2⟩, ⟨z3, c 3⟩, ⟨z4, c 4⟩, fun j => hB.frozen j, hB.lt, ((((hb.setCell hg _).setCell hg _).setCell hg _).setCell hg _).setCell hg _, Z', by simp at hZ; omega, ?_⟩
  have h2 := ((((hB.set_ (k * 5) (.int .i64 x.c)).set_ (k * 5 + 1) (.int .i64 x.f)).set_ (k * 5 + 2) (.int .i64 x.r)).set_ (k * 5 + 3) (.int .i64 x.g)).set_ (k * 5 + 4) (.int .i64 x.h)
  rw [List.setIfInBounds_toArray, List.setIfInBounds_toArray, List.setIfInBounds_toArray, List.setIfInBounds_toArray, List.setIfInBounds_toArray, set5 _ _ _ _ _ _ _ _ _ _ _ _ _ hpl] at h2
  have e : M.take (k + 1) = M.take k ++ [x] := by
    rw [List.take_add_one, ← hx]
    simp [List.getElem?_eq_getElem hM]
  rw [e, stC_snoc, List.append_assoc]
  exact h2

theorem box2 (W : World) (c1 c2 : Array Value) (T1 T2 : TypeId) : Blk ((W.alloc (.cells c1 T1)).alloc (.cells c2 T2)) W.heap.size T1 c1 ∧ Blk ((W.alloc (.cells c1 T1)).alloc (.cells c2 T2)) (W.heap.size + 1) T2 c2 := by
  have h1 : Blk (W.alloc (.cells c1 T1)) W.heap.size T1 c1 := heap_alloc_new W _
  have h2 := heap_alloc_new (W.alloc (.cells c1 T1)) (.cells c2 T2)
  rw [World.size_alloc] at h2
  exact ⟨h1.below (ba _ _), h2⟩
end Go.Proofs.YtdhjigaocamglaaDoor

/- Pieces: Plain, Bare and Terse, for any piece. -/
namespace Go.Proofs.YtdhjigaocamglaaDoor
open Go Go.RowKit

/-- A list where there is no error. -/
def oC {α : Type} (er : Int) (L : List α) : List α := if er = 0 then L else []
theorem oC_ok {α : Type} (L : List α) : oC 0 L = L := rfl
theorem oC_no {α : Type} {er : Int} (h : er ≠ 0) (L : List α) : oC er L = [] := if_neg h
/-- A call hands back a piece of its own and an error; with an error the piece is empty. -/
def PcRes (er : Int) (C : List Cr) (S : List Int) (P : List EvP) (w : World) (e : Ending) (w' : World) : Prop :=
  ∃ B n d B' m d' B2 q d2, e = .returned (.tuple #[pcV B n d B' m d' B2 q d2, .int .i64 er]) ∧ PcOw w' w.heap.size B n d B' m d' B2 q d2 (oC er C) (oC er S) (oC er P) ∧ Below w.heap.size w w'
theorem pbox (w : World) (A : Option Addr) (n c : Nat) (A' : Option Addr) (m c' : Nat) (A2 : Option Addr) (q cq : Nat) :
    Blk ((w.alloc (pcO A n c A' m c' A2 q cq)).alloc zPcO) w.heap.size 28 #[.slice A n c, .slice A' m c', .slice A2 q cq] ∧ Blk ((w.alloc (pcO A n c A' m c' A2 q cq)).alloc zPcO) (w.heap.size + 1) 28 #[.slice none 0 0, .slice none 0 0, .slice none 0 0] ∧
      Below w.heap.size w ((w.alloc (pcO A n c A' m c' A2 q cq)).alloc zPcO) ∧ ((w.alloc (pcO A n c A' m c' A2 q cq)).alloc zPcO).heap.size = w.heap.size + 2 :=
  ⟨(box2 w _ _ _ _).1, (box2 w _ _ _ _).2, bt (ba _ _) (ba _ _), by simp⟩
end Go.Proofs.YtdhjigaocamglaaDoor

/- Pieces: the function that Augment hands to rewrite. -/
namespace Go.Proofs.YtdhjigaocamglaaDoor
open Go Go.RowKit

end Go.Proofs.YtdhjigaocamglaaDoor

/- Pieces: Augment of the program, for any piece and number. -/
namespace Go.Proofs.YtdhjigaocamglaaDoor
open Go Go.RowKit

end Go.Proofs.YtdhjigaocamglaaDoor
