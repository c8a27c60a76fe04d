/- An instrument that a call makes and writes to, more: its steps. -/
import Derived.Test.YtbjmlbmkfgocdaaDoorTune2
import Derived.Test.YtbjmlbmkfgocdaaDoorPure7
namespace Go.Proofs.YtbjmlbmkfgocdaaDoor
open Go.RowKit

section
variable {w : World} {A : Option Addr} {n c : Nat} {A' : Option Addr} {m c' : Nat} {g : Nat} {A1 : Option Addr} {c1 : Nat} {A2 : Option Addr} {m2 c2 : Nat} {V2 : Value} {L : List Cr} {S : List Int} {wr : World}
theorem TuI.mlen (h : TuI w A n c A' m c' g A1 c1 A2 m2 c2 V2 L S wr) : m2 = S.length := by
  have := h.2.2.2.1.2.1
  rw [intC_len] at this
  omega
theorem TuI.step (h : TuI w A n c A' m c' g A1 c1 A2 m2 c2 V2 L S wr) {k : Nat} (hk : k < m2) :
    ∃ g2, A2 = some ⟨g2, 0, none⟩ ∧ g2 < wr.heap.size ∧ wr.cell? ⟨g2, k, none⟩ = some (.int .i64 (S.getD k 0)) ∧ wr.frozen? ⟨g2, k, none⟩ = false ∧ g2 ≠ g ∧ w.heap.size + 2 ≤ g2 := by
  have hl := h.mlen
  obtain ⟨h1, h2, h3, h4, h5, h6⟩ := h
  obtain ⟨gA, cur, rfl, hB, hBk, _, hx⟩ := h4.2.2 (by omega)
  exact ⟨gA, rfl, hBk.lt, hBk.cellOf hx (intC_at S k (by omega)), hBk.frozen _, hBk.ne_of_type h2 (by decide), hB⟩
theorem TuI.setS {g2 : Nat} (h : TuI w A n c A' m c' g A1 c1 (some ⟨g2, 0, none⟩) m2 c2 V2 L S wr) {k : Nat} (hk : k < m2) (v : Int) :
    TuI w A n c A' m c' g A1 c1 (some ⟨g2, 0, none⟩) m2 c2 V2 L (S.set k v) (wr.setCell ⟨g2, k, none⟩ (.int .i64 v)) := by
  obtain ⟨h1, h2, h3, h4, h5, h6⟩ := h
  obtain ⟨gA', cur, e, hB, hBk, _, hx⟩ := h4.2.2 (by omega)
  injection e with e
  injection e with e
  subst e
  refine ⟨h1.other (by omega) _ _, h2.other (hBk.ne_of_type h2 (by decide)) _ _, h3.otherT hBk (by decide) _ _, ?_, h5.setCell (by simp; omega) _, h6⟩
  rw [← intC_set]
  exact h4.set_ _ _
/-- The block gets another slice of steps. -/
theorem TuI.setV (h : TuI w A n c A' m c' g A1 c1 A2 m2 c2 V2 L S wr) (V : Value) : TuI w A n c A' m c' g A1 c1 A2 m2 c2 V L S (wr.setCell ⟨g, 1, none⟩ V) := by
  obtain ⟨h1, h2, h3, h4, h5, h6⟩ := h
  exact ⟨h1.other (by omega) _ _, h2.set_ 1 V, h3.otherT h2 (by decide) _ _, h4.otherT h2 (by decide) _ _, h5.setCell (by simp; omega) _, h6⟩
theorem intC_drop (S : List Int) (j : Nat) : intC (S.drop j) = (intC S).drop j := by simp [intC, List.map_drop]
/-- The call ends: the instrument with the steps from j on is laid into the result's block. -/
theorem TuI.doneV {g2 j : Nat} {A3 : Option Addr} {m3 c3 : Nat} (h : TuI w A n c A' m c' g A1 c1 (some ⟨g2, 0, none⟩) m2 c2 (.slice A3 m3 c3) L S wr) (hm3 : m3 = m2 - j) (hc : m3 ≤ c3) (hA3 : 0 < m3 → A3 = some ⟨g2, j, none⟩) :
    InP L (S.drop j) 0 w (.returned (.tuple #[.agg #[.slice A1 n c1, .slice A3 m3 c3], .int .i64 0])) ((wr.setCell ⟨w.heap.size + 1, 0, none⟩ (.slice A1 n c1)).setCell ⟨w.heap.size + 1, 1, none⟩ (.slice A3 m3 c3)) := by
  have hl := h.nlen
  have hml := h.mlen
  obtain ⟨h1, h2, h3, h4, h5, h6⟩ := h
  have h4' := (h4.other (g := w.heap.size + 1) (by omega) 0 (.slice A1 n c1)).other (g := w.heap.size + 1) (by omega) 1 (.slice A3 m3 c3)
  refine ⟨A1, n, c1, A3, m3, c3, rfl, hl, by rw [List.length_drop]; omega, ((h3.other (by omega) _ _).other (by omega) _ _).sl, ⟨hc, by rw [intC_len, List.length_drop]; omega, fun hn => ?_⟩, (fun h a e => by have := h3.fresh h a e; omega), (fun h a e => ?_), ((bx h5).setCell (by simp) _).setCell (by simp) _⟩
  · obtain ⟨gA, cur, e, hB, hBk, _, hx⟩ := h4'.2.2 (by omega)
    injection e with e
    injection e with e
    subst e
    refine ⟨g2, j, hA3 hn, hBk.lt, fun i u hu => ?_⟩
    rw [intC_drop, List.getElem?_drop] at hu
    exact hBk.cellOf hx hu
  · rw [hA3 h] at e
    injection e with e
    have := h4.fresh (by omega) _ rfl
    rw [← e]
    simp at this ⊢
    omega
end

theorem sl_drop {w : World} {B : Nat} {A : Option Addr} {m c : Nat} {S : List Int} (h : Sl w B 1 A m c (intC S)) {j : Nat} (hj : j ≤ m) : Sl w B 1 (A.map fun a => a.add j) (m - j) (c - j) (intC (S.drop j)) := by
  have hl : S.length = m := by have := h.2.1; rw [intC_len] at this; omega
  refine ⟨by have := h.1; omega, by rw [intC_len, List.length_drop]; omega, fun hn => ?_⟩
  obtain ⟨b, off, rfl, hb, hc⟩ := h.2.2 (by omega)
  refine ⟨b, off + j, by simp [Go.WideShapes.add_plain], hb, fun i u hu => ?_⟩
  rw [intC_drop, List.getElem?_drop] at hu
  rw [Nat.add_assoc]
  exact hc _ _ hu
theorem below_set2 {X W : World} (h : Below X.heap.size X W) {g : Nat} (hg : X.heap.size ≤ g) (u v : Value) : Below X.heap.size X ((W.setCell ⟨g, 0, none⟩ u).setCell ⟨g, 1, none⟩ v) := (h.setCell hg _).setCell hg _
/-- It begins: the block was laid before, and is now written. -/
theorem TuI.start2 {w : World} {A : Option Addr} {n c : Nat} {A' : Option Addr} {m c' : Nat} {g : Nat} {A1 : Option Addr} {c1 : Nat} {A2 : Option Addr} {m2 c2 : Nat} {w1 : World} {L : List Cr} {S : List Int} {u0 u1 : Value} (hR : CopyR w A n c A' m c' w1) (hz : Blk w1 (w.heap.size + 1) 36 #[.slice none 0 0, .slice none 0 0])
    (hg : Blk w1 g 36 #[u0, u1]) (hge : w.heap.size + 2 ≤ g) (o1 : Ow w1 (w.heap.size + 2) 51 3 A1 n c1 (crC L)) (o2 : Ow w1 (w.heap.size + 2) 3 1 A2 m2 c2 (intC S)) :
    TuI w A n c A' m c' g A1 c1 A2 m2 c2 (.slice A2 m2 c2) L S ((w1.setCell ⟨g, 0, none⟩ (.slice A1 n c1)).setCell ⟨g, 1, none⟩ (.slice A2 m2 c2)) :=
  ⟨(hz.other (by omega) _ _).other (by omega) _ _, (hg.set_ 0 _).set_ 1 _, (o1.otherT hg (by decide) _ _).otherT (hg.set_ 0 _) (by decide) _ _, (o2.otherT hg (by decide) _ _).otherT (hg.set_ 0 _) (by decide) _ _, (hR.2.setCell (by simp; omega) _).setCell (by simp; omega) _, hge⟩
theorem blk_new (w : World) (cs : Array Value) (t : TypeId) : Blk (w.alloc (.cells cs t)) w.heap.size t cs := heap_alloc_new w _
theorem drew_below2 (w : World) : Below w.heap.size w w.drew := (Below.refl _ _).drew
theorem keepZ {w W : World} {u v : Value} {t : TypeId} (h : Below (w.alloc (.cells #[u, v] t)).heap.size (w.alloc (.cells #[u, v] t)) W) :
    W.cell? ⟨w.heap.size, 0, none⟩ = some u ∧ W.cell? ⟨w.heap.size, 1, none⟩ = some v ∧ W.frozen? ⟨w.heap.size, 0, none⟩ = false ∧ W.frozen? ⟨w.heap.size, 1, none⟩ = false ∧ w.heap.size < W.heap.size := by
  obtain ⟨c0, f0⟩ := keepb h 0
  obtain ⟨c1, f1⟩ := keepb h 1
  have hz := h.size
  simp at c0 c1 hz
  exact ⟨c0, c1, f0, f1, by omega⟩
theorem argsS {w : World} {A : Option Addr} {n c : Nat} {A' : Option Addr} {m c' : Nat} {w' : World} (h : Below ((w.alloc (iObj A n c A' m c')).alloc zIn).heap.size ((w.alloc (iObj A n c A' m c')).alloc zIn) w') :
    w'.cell? ⟨w.heap.size, 0, none⟩ = some (.slice A n c) ∧ w'.cell? ⟨w.heap.size, 1, none⟩ = some (.slice A' m c') ∧ w.heap.size + 1 < w'.heap.size ∧ Below ((w.alloc (iObj A n c A' m c')).alloc zIn).heap.size ((w.alloc (iObj A n c A' m c')).alloc zIn) w' := by
  obtain ⟨s0, s1, s2, s3, s4, s5, s6, s7⟩ := argsR h
  exact ⟨s0, s1, s6, h⟩

end Go.Proofs.YtbjmlbmkfgocdaaDoor
