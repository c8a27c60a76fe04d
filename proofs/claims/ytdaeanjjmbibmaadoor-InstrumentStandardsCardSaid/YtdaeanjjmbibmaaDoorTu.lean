/- An instrument that a call makes and writes to: its block, its courses and its steps. -/
import Derived.Test.YtdaeanjjmbibmaaDoorClone
import Derived.Test.YtdaeanjjmbibmaaDoorPure6
namespace Go.Proofs.YtdaeanjjmbibmaaDoor
open Go.RowKit

/-- A call hands back the instrument C, S and the error er. -/
def InP (C : List Cr) (S : List Int) (er : Int) (w : World) (e : Ending) (w' : World) : Prop :=
  ∃ (A : Option Addr) (n c : Nat) (A' : Option Addr) (m c' : Nat), e = .returned (.tuple #[.agg #[.slice A n c, .slice A' m c'], .int .i64 er]) ∧ n = C.length ∧ m = S.length ∧
    Sl w' w'.heap.size 3 A n c (crC C) ∧ Sl w' w'.heap.size 1 A' m c' (intC S) ∧ (0 < n → ∀ a, A = some a → w.heap.size ≤ a.block) ∧ (0 < m → ∀ a, A' = some a → w.heap.size ≤ a.block) ∧ Below w.heap.size w w'
theorem inP_err {er : Int} {w w' : World} (hb : Below w.heap.size w w') : InP [] [] er w (.returned (.tuple #[.agg #[.slice none 0 0, .slice none 0 0], .int .i64 er])) w' :=
  ⟨none, 0, 0, none, 0, 0, rfl, rfl, rfl, Sl.none_ _ _ _, Sl.none_ _ _ _, (fun h => absurd h (by omega)), (fun h => absurd h (by omega)), hb⟩
theorem Sl.set2 {w : World} {B size n c : Nat} {A : Option Addr} {xs : List Value} (h : Sl w B size A n c xs) {p : Addr} (hp : 0 < n → ∀ a, A = some a → a.block ≠ p.block) (u : Value) : Sl (w.setCell p u) B size A n c xs :=
  ⟨h.1, h.2.1, fun hn => by
    obtain ⟨b, off, e, hb, hc⟩ := h.2.2 hn
    have := hp hn _ e
    exact ⟨b, off, e, hb, fun j x hx => (World.cell?_setCell_other w p _ u (fun e => this (by rw [e]))).trans (hc j x hx)⟩⟩
/-- What a callee has handed back is laid into the caller's result (block g, below the callee's world). -/
theorem InP.relay {C : List Cr} {S : List Int} {er : Int} {w W W' : World} {A : Option Addr} {n c : Nat} {A' : Option Addr} {m c' : Nat} {g : Nat} (hn : n = C.length) (hm : m = S.length) (s1 : Sl W' W'.heap.size 3 A n c (crC C)) (s2 : Sl W' W'.heap.size 1 A' m c' (intC S))
    (f1 : 0 < n → ∀ a, A = some a → W.heap.size ≤ a.block) (f2 : 0 < m → ∀ a, A' = some a → W.heap.size ≤ a.block) (hb : Below W.heap.size W W') (hw : Below w.heap.size w W) (hg : w.heap.size ≤ g) (hgW : g < W.heap.size) :
    InP C S er w (.returned (.tuple #[.agg #[.slice A n c, .slice A' m c'], .int .i64 er])) ((W'.setCell ⟨g, 0, none⟩ (.slice A n c)).setCell ⟨g, 1, none⟩ (.slice A' m c')) := by
  have n1 : 0 < n → ∀ a, A = some a → a.block ≠ g := fun h a e => by have := f1 h a e; omega
  have n2 : 0 < m → ∀ a, A' = some a → a.block ≠ g := fun h a e => by have := f2 h a e; omega
  have hz := hw.size
  refine ⟨A, n, c, A', m, c', rfl, hn, hm, ?_, ?_, fun h a e => by have := f1 h a e; omega, fun h a e => by have := f2 h a e; omega, ((bt hw hb).setCell hg _).setCell hg _⟩
  · exact ((s1.set2 n1 _).set2 n1 _).more (by simp)
  · exact ((s2.set2 n2 _).set2 n2 _).more (by simp)

theorem Blk.other {w : World} {g g' : Nat} {t : TypeId} {cs : Array Value} (h : Blk w g t cs) (hne : g' ≠ g) (i : Nat) (u : Value) : Blk (w.setCell ⟨g', i, none⟩ u) g t cs := by
  unfold Blk at h ⊢
  simp [World.setCell, Array.getElem?_modify, h, hne]
theorem Blk.ne_of_type {w : World} {g g' : Nat} {t t' : TypeId} {cs cs' : Array Value} (h : Blk w g t cs) (h' : Blk w g' t' cs') (hne : t ≠ t') : g ≠ g' := by
  rintro rfl
  unfold Blk at h h'
  rw [h'] at h
  injection h with h
  injection h with _ he
  exact hne he.symm
theorem Ow.otherT {w : World} {B : Nat} {t : TypeId} {size : Nat} {A : Option Addr} {n c : Nat} {xs : List Value} (h : Ow w B t size A n c xs) {g : Nat} {t' : TypeId} {cs : Array Value} (hB : Blk w g t' cs) (hne : t' ≠ t) (i : Nat) (u : Value) :
    Ow (w.setCell ⟨g, i, none⟩ u) B t size A n c xs :=
  ⟨h.1, h.2.1, fun hn => by
    obtain ⟨g', cur, h1, h2, h3, h4⟩ := h.2.2 hn
    exact ⟨g', cur, h1, h2, h3.other (hB.ne_of_type h3 hne) i u, h4⟩⟩

theorem crC_set0 : ∀ (L : List Cr) (k : Nat) (v : Int), k < L.length → (crC L).set (k * 3) (.int .i64 v) = crC (L.set k ⟨v, (L.getD k zc).f, (L.getD k zc).o⟩)
  | x :: r, 0, v, _ => rfl
  | x :: r, k + 1, v, h => by
    have ih := crC_set0 r k v (by simpa using h)
    have e : crC (x :: r) = .int .i64 x.p :: .int .i64 x.f :: .bool x.o :: crC r := rfl
    rw [e, show (k + 1) * 3 = k * 3 + 3 by omega]
    simp only [List.set_cons_succ]
    rw [ih]
    rfl
theorem crC_set1 : ∀ (L : List Cr) (k : Nat) (v : Int), k < L.length → (crC L).set (k * 3 + 1) (.int .i64 v) = crC (L.set k ⟨(L.getD k zc).p, v, (L.getD k zc).o⟩)
  | x :: r, 0, v, _ => rfl
  | x :: r, k + 1, v, h => by
    have ih := crC_set1 r k v (by simpa using h)
    have e : crC (x :: r) = .int .i64 x.p :: .int .i64 x.f :: .bool x.o :: crC r := rfl
    rw [e, show (k + 1) * 3 + 1 = (k * 3 + 1) + 3 by omega]
    simp only [List.set_cons_succ]
    rw [ih]
    rfl
theorem intC_set (S : List Int) (k : Nat) (v : Int) : (intC S).set k (.int .i64 v) = intC (S.set k v) := by simp [intC, List.map_set]

/-- The argument's block lies at w's end, the result's behind it; block g holds the instrument in the making: courses L (owned), steps S (owned; V2 is the slice that the block holds of them). -/
def TuI (w : World) (A : Option Addr) (n c : Nat) (A' : Option Addr) (m c' : Nat) (g : Nat) (A1 : Option Addr) (c1 : Nat) (A2 : Option Addr) (m2 c2 : Nat) (V2 : Value) (L : List Cr) (S : List Int) (wr : World) : Prop :=
  Blk wr (w.heap.size + 1) 25 #[.slice none 0 0, .slice none 0 0] ∧ Blk wr g 25 #[.slice A1 n c1, V2] ∧ Ow wr (w.heap.size + 2) 75 3 A1 n c1 (crC L) ∧ Ow wr (w.heap.size + 2) 3 1 A2 m2 c2 (intC S) ∧
    Below (w.alloc (iObj A n c A' m c')).heap.size (w.alloc (iObj A n c A' m c')) wr ∧ w.heap.size + 2 ≤ g
section
variable {w : World} {A : Option Addr} {n c : Nat} {A' : Option Addr} {m c' : Nat} {g : Nat} {A1 : Option Addr} {c1 : Nat} {A2 : Option Addr} {m2 c2 : Nat} {V2 : Value} {L : List Cr} {S : List Int} {wr : World}
theorem TuI.below (h : TuI w A n c A' m c' g A1 c1 A2 m2 c2 V2 L S wr) {w2 : World} (hb : Below wr.heap.size wr w2) : TuI w A n c A' m c' g A1 c1 A2 m2 c2 V2 L S w2 :=
  ⟨h.1.below hb, h.2.1.below hb, h.2.2.1.below hb, h.2.2.2.1.below hb, bt h.2.2.2.2.1 hb, h.2.2.2.2.2⟩
theorem TuI.nlen (h : TuI w A n c A' m c' g A1 c1 A2 m2 c2 V2 L S wr) : n = L.length := by
  have := h.2.2.1.2.1
  rw [crC_len] at this
  omega
/-- What the walk reads: the two blocks. -/
theorem TuI.cells (h : TuI w A n c A' m c' g A1 c1 A2 m2 c2 V2 L S wr) :
    wr.cell? ⟨w.heap.size, 0, none⟩ = some (.slice A n c) ∧ wr.cell? ⟨w.heap.size, 1, none⟩ = some (.slice A' m c') ∧ wr.cell? ⟨w.heap.size + 1, 0, none⟩ = some (.slice none 0 0) ∧ wr.cell? ⟨w.heap.size + 1, 1, none⟩ = some (.slice none 0 0) ∧
      wr.frozen? ⟨w.heap.size + 1, 0, none⟩ = false ∧ wr.frozen? ⟨w.heap.size + 1, 1, none⟩ = false ∧ wr.cell? ⟨g, 0, none⟩ = some (.slice A1 n c1) ∧ wr.cell? ⟨g, 1, none⟩ = some V2 ∧ wr.frozen? ⟨g, 0, none⟩ = false ∧ wr.frozen? ⟨g, 1, none⟩ = false ∧ g < wr.heap.size ∧ w.heap.size + 1 < wr.heap.size := by
  obtain ⟨h1, h2, h3, h4, h5, h6⟩ := h
  obtain ⟨q0, _⟩ := keepb h5 0
  obtain ⟨q1, _⟩ := keepb h5 1
  exact ⟨q0, q1, h1.cell 0, h1.cell 1, h1.frozen 0, h1.frozen 1, h2.cell 0, h2.cell 1, h2.frozen 0, h2.frozen 1, h2.lt, h1.lt⟩
/-- A course's pitch, and its fret, may be read and written. -/
theorem TuI.course (h : TuI w A n c A' m c' g A1 c1 A2 m2 c2 V2 L S wr) {k : Nat} (hk : k < n) :
    ∃ gA, A1 = some ⟨gA, 0, none⟩ ∧ gA < wr.heap.size ∧ wr.cell? ⟨gA, k * 3, none⟩ = some (.int .i64 (L.getD k zc).p) ∧ wr.cell? ⟨gA, k * 3 + 1, none⟩ = some (.int .i64 (L.getD k zc).f) ∧ wr.cell? ⟨gA, k * 3 + 2, none⟩ = some (.bool (L.getD k zc).o) ∧
      wr.frozen? ⟨gA, k * 3, none⟩ = false ∧ wr.frozen? ⟨gA, k * 3 + 1, none⟩ = false ∧ gA ≠ g ∧ w.heap.size + 2 ≤ gA := by
  have hl := h.nlen
  obtain ⟨h1, h2, h3, h4, h5, h6⟩ := h
  obtain ⟨gA, cur, rfl, hB, hBk, _, hx⟩ := h3.2.2 (by omega)
  obtain ⟨i0, i1, i2⟩ := crC_at L k (by omega)
  exact ⟨gA, rfl, hBk.lt, hBk.cellOf hx i0, hBk.cellOf hx i1, hBk.cellOf hx i2, hBk.frozen _, hBk.frozen _, hBk.ne_of_type h2 (by decide), hB⟩
theorem TuI.set0 {gA : Nat} (h : TuI w A n c A' m c' g (some ⟨gA, 0, none⟩) c1 A2 m2 c2 V2 L S wr) {k : Nat} (hk : k < n) (v : Int) :
    TuI w A n c A' m c' g (some ⟨gA, 0, none⟩) c1 A2 m2 c2 V2 (L.set k ⟨v, (L.getD k zc).f, (L.getD k zc).o⟩) S (wr.setCell ⟨gA, k * 3, none⟩ (.int .i64 v)) := by
  have hl := h.nlen
  obtain ⟨h1, h2, h3, h4, h5, h6⟩ := h
  obtain ⟨gA', cur, e, hB, hBk, _, hx⟩ := h3.2.2 (by omega)
  injection e with e
  injection e with e
  subst e
  refine ⟨h1.other (by omega) _ _, h2.other (hBk.ne_of_type h2 (by decide)) _ _, ?_, h4.otherT hBk (by decide) _ _, h5.setCell (by simp; omega) _, h6⟩
  rw [← crC_set0 L k v (by omega)]
  exact h3.set_ _ _
theorem TuI.set1 {gA : Nat} (h : TuI w A n c A' m c' g (some ⟨gA, 0, none⟩) c1 A2 m2 c2 V2 L S wr) {k : Nat} (hk : k < n) (v : Int) :
    TuI w A n c A' m c' g (some ⟨gA, 0, none⟩) c1 A2 m2 c2 V2 (L.set k ⟨(L.getD k zc).p, v, (L.getD k zc).o⟩) S (wr.setCell ⟨gA, k * 3 + 1, none⟩ (.int .i64 v)) := by
  have hl := h.nlen
  obtain ⟨h1, h2, h3, h4, h5, h6⟩ := h
  obtain ⟨gA', cur, e, hB, hBk, _, hx⟩ := h3.2.2 (by omega)
  injection e with e
  injection e with e
  subst e
  refine ⟨h1.other (by omega) _ _, h2.other (hBk.ne_of_type h2 (by decide)) _ _, ?_, h4.otherT hBk (by decide) _ _, h5.setCell (by simp; omega) _, h6⟩
  rw [← crC_set1 L k v (by omega)]
  exact h3.set_ _ _
/-- The call ends: the instrument is laid into the result's block. -/
theorem TuI.done (h : TuI w A n c A' m c' g A1 c1 A2 m2 c2 (.slice A2 m2 c2) L S wr) (hm : m2 = S.length) :
    InP L S 0 w (.returned (.tuple #[.agg #[.slice A1 n c1, .slice A2 m2 c2], .int .i64 0])) ((wr.setCell ⟨w.heap.size + 1, 0, none⟩ (.slice A1 n c1)).setCell ⟨w.heap.size + 1, 1, none⟩ (.slice A2 m2 c2)) := by
  have hl := h.nlen
  obtain ⟨h1, h2, h3, h4, h5, h6⟩ := h
  exact ⟨A1, n, c1, A2, m2, c2, rfl, hl, hm, ((h3.other (by omega) _ _).other (by omega) _ _).sl, ((h4.other (by omega) _ _).other (by omega) _ _).sl, (fun h a e => by have := h3.fresh h a e; omega), (fun h a e => by have := h4.fresh h a e; omega), ((bx h5).setCell (by simp) _).setCell (by simp) _⟩
theorem TuI.fail (h : TuI w A n c A' m c' g A1 c1 A2 m2 c2 V2 L S wr) (er : Int) :
    InP [] [] er w (.returned (.tuple #[.agg #[.slice none 0 0, .slice none 0 0], .int .i64 er])) ((wr.setCell ⟨w.heap.size + 1, 0, none⟩ (.slice none 0 0)).setCell ⟨w.heap.size + 1, 1, none⟩ (.slice none 0 0)) :=
  inP_err (((bx h.2.2.2.2.1).setCell (by simp) _).setCell (by simp) _)
/-- It begins: behind a copy, in a block of its own. -/
theorem TuI.start {w1 : World} {L : List Cr} {S : List Int} (hR : CopyR w A n c A' m c' w1) (hz : Blk w1 (w.heap.size + 1) 25 #[.slice none 0 0, .slice none 0 0]) (o1 : Ow w1 (w.heap.size + 2) 75 3 A1 n c1 (crC L)) (o2 : Ow w1 (w.heap.size + 2) 3 1 A2 m2 c2 (intC S)) :
    TuI w A n c A' m c' w1.heap.size A1 c1 A2 m2 c2 (.slice A2 m2 c2) L S (w1.alloc (.cells #[.slice A1 n c1, .slice A2 m2 c2] 25)) :=
  ⟨hz.below (ba _ _), heap_alloc_new w1 _, o1.below (ba _ _), o2.below (ba _ _), bt hR.2 (ba _ _), by have := hz.lt; omega⟩
end

end Go.Proofs.YtdaeanjjmbibmaaDoor
