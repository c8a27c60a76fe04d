/- What the reference's Copy returns: an equal instrument in memory of its own; and Big. -/
import Derived.Test.YtdhjigaocamglaaDoorQdInst
import Derived.Deep.RegionHeld3
import Derived.Deep.AppendLies
import Derived.ArgAppend
namespace Go.Proofs.YtdhjigaocamglaaDoor
open Go.RowKit

/-- A slice that lies at the head of a block laid since block B: its cells are xs. -/
def Ow (w : World) (B : Nat) (t : TypeId) (size : Nat) (A : Option Addr) (n c : Nat) (xs : List Value) : Prop :=
  n ≤ c ∧ xs.length = n * size ∧ (0 < n → ∃ g cur, A = some ⟨g, 0, none⟩ ∧ B ≤ g ∧ Blk w g t cur ∧ cur.size = c * size ∧ cur.toList.take (n * size) = xs)
theorem Ow.below {w w' : World} {B : Nat} {t : TypeId} {size : Nat} {A : Option Addr} {n c : Nat} {xs : List Value} (h : Ow w B t size A n c xs) (hb : Below w.heap.size w w') : Ow w' B t size A n c xs :=
  ⟨h.1, h.2.1, fun hn => by
    obtain ⟨g, cur, h1, h2, h3, h4⟩ := h.2.2 hn
    exact ⟨g, cur, h1, h2, h3.below hb, h4⟩⟩
theorem Ow.more {w : World} {B B' : Nat} {t : TypeId} {size : Nat} {A : Option Addr} {n c : Nat} {xs : List Value} (h : Ow w B t size A n c xs) (hB : B' ≤ B) : Ow w B' t size A n c xs :=
  ⟨h.1, h.2.1, fun hn => by
    obtain ⟨g, cur, h1, h2, h3, h4⟩ := h.2.2 hn
    exact ⟨g, cur, h1, by omega, h3, h4⟩⟩
theorem Ow.other {w : World} {B : Nat} {t : TypeId} {size : Nat} {A : Option Addr} {n c : Nat} {xs : List Value} (h : Ow w B t size A n c xs) {g : Nat} (hg : g < B) (i : Nat) (u : Value) : Ow (w.setCell ⟨g, i, none⟩ u) B t size A n c xs :=
  ⟨h.1, h.2.1, fun hn => by
    obtain ⟨g', cur, h1, h2, h3, h4⟩ := h.2.2 hn
    refine ⟨g', cur, h1, h2, ?_, h4⟩
    unfold Blk at h3 ⊢
    have : g ≠ g' := by omega
    simp [World.setCell, Array.getElem?_modify, h3, this]⟩
theorem Blk.cellOf {w : World} {g : Nat} {t : TypeId} {cur : Array Value} {m : Nat} {xs : List Value} (h : Blk w g t cur) (hx : cur.toList.take m = xs) {j : Nat} {u : Value} (hu : xs[j]? = some u) : w.cell? ⟨g, j, none⟩ = some u := by
  rw [h.cell, ← Array.getElem?_toList]
  rw [← hx, List.getElem?_take] at hu
  split at hu
  · exact hu
  · cases hu
theorem Ow.sl {w : World} {B : Nat} {t : TypeId} {size : Nat} {A : Option Addr} {n c : Nat} {xs : List Value} (h : Ow w B t size A n c xs) : Sl w w.heap.size size A n c xs :=
  ⟨h.1, h.2.1, fun hn => by
    obtain ⟨g, cur, h1, h2, h3, h4, h5⟩ := h.2.2 hn
    exact ⟨g, 0, h1, h3.lt, fun j u hu => by rw [Nat.zero_add]; exact h3.cellOf h5 hu⟩⟩
theorem Ow.fresh {w : World} {B : Nat} {t : TypeId} {size : Nat} {A : Option Addr} {n c : Nat} {xs : List Value} (h : Ow w B t size A n c xs) (hn : 0 < n) : ∀ a, A = some a → B ≤ a.block := by
  obtain ⟨g, cur, h1, h2, _⟩ := h.2.2 hn
  rintro a rfl
  injection h1 with h1
  rw [h1]; exact h2
/-- A store into one of its own cells. -/
theorem Ow.set_ {w : World} {B : Nat} {t : TypeId} {size : Nat} {g : Nat} {n c : Nat} {xs : List Value} (h : Ow w B t size (some ⟨g, 0, none⟩) n c xs) (j : Nat) (u : Value) : Ow (w.setCell ⟨g, j, none⟩ u) B t size (some ⟨g, 0, none⟩) n c (xs.set j u) :=
  ⟨h.1, by rw [List.length_set]; exact h.2.1, fun hn => by
    obtain ⟨g', cur, h1, h2, h3, h4, h5⟩ := h.2.2 hn
    injection h1 with h1
    injection h1 with h1
    subst h1
    refine ⟨g, _, rfl, h2, h3.set_ j u, by rw [Array.size_setIfInBounds]; exact h4, ?_⟩
    rw [Array.toList_setIfInBounds, List.take_set, h5]⟩
theorem Ow.of_own {w : World} {base : Nat} {e : TypeId} {size : Nat} {A : Option Addr} {n c : Nat} {xs : List Value} (h : w.ownsRow base e size (.slice A n c) n xs) : Ow w base e size A n c xs := by
  refine ⟨(Sl_own h).1, h.1, fun hn => ?_⟩
  rcases h.2 with ⟨_, h0⟩ | ⟨g, cap, cur, hv, hbs, hh, hle, _, hsz, htk⟩
  · omega
  · injection hv with h1 h2 h3
    subst h1 h3
    exact ⟨g, cur, rfl, hbs, hh, hsz, htk⟩

/-- append to an empty slice without room, as one step of a region: the elements lie in memory of their own. -/
theorem step_append_fresh {P : Program} {ops : Array Oper} {o : Oper} {a : Act} {w : World} {K : Act → World → Prop} {Q : Exit → Act → World → Prop} {E : Prop}
    (hg : o.guard = none) (s x : Operand) (t : TypeId) (hop : o.op = Op.call { callee := Callee.builtin Builtin.append, args := #[s, x], argTypes := #[t, t] })
    (e : TypeId) (i : TypeInfo) (z : Value) (size bytes : Nat) (h1 : P.underlying t = some (.slice e)) (h2 : P.info? e = some i) (h3 : i.zero = some z) (h4 : i.size = size) (h5 : i.bytes = bytes) (h6 : z.cells.size = size) (h7 : 0 < size)
    (ao : Addr) (hs : a.eval s = .slice (some ao) 0 0) (A : Option Addr) (n c : Nat) (news : List Value) (hx : a.eval x = .slice A n c) {B : Nat} (hsl : Sl w B size A n c news)
    (b1 : n ≤ maxLen) (b2 : n * bytes ≤ 140737488355328)
    (hK : ∀ A' c' w', Ow w' w.heap.size e size A' n c' news → Below w.heap.size w w' → K (a.put o.dst (.slice A' n c')) w') :
    if Region.wanted o (yielded ops a.tmps) = true then Oper.wp P o a w K Q else E := by
  have hw : Region.wanted o (yielded ops a.tmps) = true := by simp [Region.wanted, hg]
  rw [if_pos hw]
  by_cases hn : n = 0
  · subst hn
    have hrun : (Builtin.append_ #[t, t] o.type #[.slice (some ao) 0 0, .slice A 0 c]).run P w = .ok (.slice (some ao) 0 0) w := by
      cases A <;> simp [Builtin.append_, run_underlying h1, sizeOf, typeInfo, h2, Builtin.lenOf, Builtin.firstCells, storeCells, loadCells, loadCellsFrom]
    unfold Oper.wp
    simp [execOp, hop, resolve, invoke, builtin, hs, hx, hrun, Result.andThen]
    exact hK _ _ _ ⟨Nat.le_refl _, hsl.2.1, fun h => by omega⟩ (Below.refl _ _)
  · obtain ⟨b, off, rfl, _, hc⟩ := hsl.2.2 (by omega)
    obtain ⟨v', w', hrun, r1, r2⟩ := run_append_arg_grows (P := P) w t o.type e i z size bytes h1 h2 h3 h4 h5 h6 h7 ao 0 0 [] (by simp) (fun j u hu => by cases hu) ⟨b, off, none⟩ n c news hsl.2.1
      (fun j u hu => by rw [Go.WideShapes.add_plain]; exact hc j u hu) (by omega) (by omega) (by rw [Nat.zero_add]; exact b2)
    rw [Nat.zero_add, List.nil_append] at r1
    obtain ⟨A', c', rfl⟩ := own_slice r1
    unfold Oper.wp
    simp [execOp, hop, resolve, invoke, builtin, hs, hx, hrun, Result.andThen]
    exact hK _ _ _ (Ow.of_own r1) (Below.grown (Below.refl _ _) r2 (Nat.le_refl _) (fun g h => by cases h))

/-- What Copy hands back. -/
def CopyPost (n m : Nat) (C : List Cr) (S : List Int) (w : World) (e : Ending) (w' : World) : Prop :=
  ∃ A c A' c', e = .returned (.agg #[.slice A n c, .slice A' m c']) ∧ Ow w' w.heap.size 60 3 A n c (crC C) ∧ Ow w' w.heap.size 3 1 A' m c' (intC S) ∧ Below w.heap.size w w'

abbrev iObj (A : Option Addr) (n c : Nat) (A' : Option Addr) (m c' : Nat) : Obj := .cells #[.slice A n c, .slice A' m c'] 25
/-- What holds while a copy is made: the argument's block and all below it are as they were; the result's block lies behind it. -/
def CopyR (w : World) (A : Option Addr) (n c : Nat) (A' : Option Addr) (m c' : Nat) (w' : World) : Prop :=
  (∃ u0 u1, Blk w' (w.heap.size + 1) 25 #[u0, u1]) ∧ Below (w.alloc (iObj A n c A' m c')).heap.size (w.alloc (iObj A n c A' m c')) w'
theorem CopyR.held {w : World} {A : Option Addr} {n c : Nat} {A' : Option Addr} {m c' : Nat} {w' : World} (h : CopyR w A n c A' m c' w') :
    w'.cell? ⟨w.heap.size, 0, none⟩ = some (.slice A n c) ∧ w'.cell? ⟨w.heap.size, 1, none⟩ = some (.slice A' m c') ∧ CopyR w A n c A' m c' w' := by
  obtain ⟨q0, _⟩ := keepb h.2 0
  obtain ⟨q1, _⟩ := keepb h.2 1
  exact ⟨q0, q1, h⟩
theorem CopyR.below {w : World} {A : Option Addr} {n c : Nat} {A' : Option Addr} {m c' : Nat} {w' w2 : World} (h : CopyR w A n c A' m c' w') (hb : Below w'.heap.size w' w2) : CopyR w A n c A' m c' w2 := by
  obtain ⟨⟨u0, u1, h1⟩, h2⟩ := h
  exact ⟨⟨u0, u1, h1.below hb⟩, bt h2 hb⟩
theorem CopyR.store {w : World} {A : Option Addr} {n c : Nat} {A' : Option Addr} {m c' : Nat} {w' : World} (h : CopyR w A n c A' m c' w') (v0 v1 : Value) :
    CopyR w A n c A' m c' ((w'.setCell ⟨w.heap.size + 1, 0, none⟩ v0).setCell ⟨w.heap.size + 1, 1, none⟩ v1) := by
  obtain ⟨⟨u0, u1, h1⟩, h2⟩ := h
  exact ⟨⟨v0, v1, (h1.set_ 0 v0).set_ 1 v1⟩, (h2.setCell (by simp) _).setCell (by simp) _⟩
theorem CopyR.sl {w : World} {A : Option Addr} {n c : Nat} {A' : Option Addr} {m c' : Nat} {w' : World} (h : CopyR w A n c A' m c' w') {size : Nat} {A2 : Option Addr} {n2 c2 : Nat} {xs : List Value} (hS : Sl w w.heap.size size A2 n2 c2 xs) : Sl w' w'.heap.size size A2 n2 c2 xs :=
  (hS.below (ba w _)).below h.2

set_option maxRecDepth 100000 in
set_option maxHeartbeats 16000000 in
theorem rcopy_any (A A' : Option Addr) (n c m c' : Nat) (C : List Cr) (S : List Int) (w : World) (hC : Sl w w.heap.size 3 A n c (crC C)) (hS : Sl w w.heap.size 1 A' m c' (intC S)) (hb : n ≤ 65536) (hb2 : m ≤ 65536) :
    Calls Tryd.prog 34 #[.agg #[.slice A n c, .slice A' m c']] w (CopyPost n m C S w) := by
  obtain ⟨i0, ii1, ii2, ii3, ii4⟩ := info_parts Tryd.info60
  obtain ⟨j0, jj1, jj2, jj3, jj4⟩ := info_parts Tryd.info3'
  have hR0 : CopyR w A n c A' m c' (((w.alloc (iObj A n c A' m c')).alloc zIn).drew) :=
    ⟨⟨_, _, by have := heap_alloc_new (w.alloc (iObj A n c A' m c')) zIn; rw [show (w.alloc (iObj A n c A' m c')).heap.size = w.heap.size + 1 by simp] at this; exact this⟩, (ba _ _).drew⟩
  have HC := Lib.hid hC
  have HS := Lib.hid hS
  clear hC hS
  go_enter Tryd.func34, Tryd.ntmps34
  go_wp2_with (fail)
  go_region_held3 (fun w' => w'.cell? ⟨w.heap.size, 0, none⟩ = some (.slice A n c) ∧ w'.cell? ⟨w.heap.size, 1, none⟩ = some (.slice A' m c') ∧ CopyR w A n c A' m c' w')
    (first
      | exact hR0.held
      | exact (CopyR.below (And.right (And.right (by assumption))) hb10).held
      | exact (CopyR.below (And.right (And.right (by assumption))) hb6).held
      | exact (CopyR.store (And.right (And.right (by assumption))) _ _).held
      | exact (CopyR.below (And.right (And.right (by assumption))) (ba _ _)).held)
    (first
      | (refine step_append_fresh rfl (.tmp 3) (.tmp 5) 22 rfl 60 i0 _ 3 24 Tryd.underlying22 ii1 ii2 ii3 ii4 rfl (by decide) _ rfl A n c (crC C) rfl (CopyR.sl (And.right (And.right (by assumption))) HC.out) (by unfold maxLen; omega) (by omega) ?_; intro A6 c6 w6 hown6 hb6; have hz6 : w.heap.size + 2 ≤ w6.heap.size := (by have := hb6.size; simp at this; omega))
      | (refine step_append_fresh rfl (.tmp 7) (.tmp 9) 23 rfl 3 j0 _ 1 8 Tryd.underlying23 jj1 jj2 jj3 jj4 rfl (by decide) _ rfl A' m c' (intC S) rfl (CopyR.sl (And.right (And.right (by assumption))) HS.out) (by unfold maxLen; omega) (by omega) ?_; intro A10 c10 w10 hown10 hb10; have hRR := CopyR.below (And.right (And.right (by assumption))) hb10; obtain ⟨⟨u0, u1, hBk⟩, hBl⟩ := hRR; have r0 := hBk.cell 0; have r1 := hBk.cell 1; have f0 := hBk.frozen 0; have f1 := hBk.frozen 1; simp at r0 r1))
  all_goals
    go_wp2_with (fail)
    refine bodyPost_ret (v := .agg #[.slice A6 n c6, .slice A10 m c10]) ?_ rfl ?_
    · simp [results, Tryd.results34, go_sem, r0, r1]
      done
    · have k6 : Ow w10 (w.heap.size + 2) 60 3 A6 n c6 (crC C) := by
        first
          | exact (hown6.below hb10).more (by first | omega | (simp; done) | (simp; omega))
          | exact (hown6.below (bx hb10)).more (by first | omega | (simp; done) | (simp; omega))
      have k10 : Ow w10 (w.heap.size + 2) 3 1 A10 m c10 (intC S) := hown10.more (by first | omega | (simp; done) | (simp; omega))
      exact ⟨A6, c6, A10, c10, rfl, ((k6.other (by omega) _ _).other (by omega) _ _).more (by omega), ((k10.other (by omega) _ _).other (by omega) _ _).more (by omega), ((bx hBl).setCell (by simp) _).setCell (by simp) _⟩

end Go.Proofs.YtdhjigaocamglaaDoor
