/- What slices.Clone returns at courses and at numbers, and the program's clone of an instrument. -/
import Derived.Test.YtbjmlbmkfgocdaaDoorCopy
import Derived.Lib.SliceRun
namespace Go.Proofs.YtbjmlbmkfgocdaaDoor
open Go.RowKit

theorem wpList_append_fresh {P : Program} {ops : Array Oper} {rest : List Oper} {o : Oper} {a : Act} {w : World} {Q : Exit → Act → World → Prop}
    (hg : o.guard = none) (s x : Operand) (t : TypeId) (hop : o.op = Op.call { callee := Callee.builtin Builtin.append, args := #[s, x], argTypes := #[t, t] })
    (e : TypeId) (i : TypeInfo) (z : Value) (size bytes : Nat) (h1 : P.underlying t = some (.slice e)) (h2 : P.info? e = some i) (h3 : i.zero = some z) (h4 : i.size = size) (h5 : i.bytes = bytes) (h6 : z.cells.size = size) (h7 : 0 < size)
    (ao : Addr) (hs : a.eval s = .slice (some ao) 0 0) (A : Option Addr) (n c : Nat) (news : List Value) (hx : a.eval x = .slice A n c) {B : Nat} (hsl : Sl w B size A n c news)
    (b1 : n ≤ maxLen) (b2 : n * bytes ≤ 140737488355328)
    (hK : ∀ A' c' w', Ow w' w.heap.size e size A' n c' news → Below w.heap.size w w' → wpList P ops Q rest (a.put o.dst (.slice A' n c')) w') : wpList P ops Q (o :: rest) a w := by
  refine wpList_plain hg fun K hK' => ?_
  have h := step_append_fresh (P := P) (ops := ops) (K := K) (Q := Q) (E := True) hg s x t hop e i z size bytes h1 h2 h3 h4 h5 h6 h7 ao hs A n c news hx hsl b1 b2 (fun A' c' w' g1 g2 => hK' _ _ (hK A' c' w' g1 g2))
  rw [if_pos (by simp [Region.wanted, hg])] at h
  exact h

theorem Ow.nil_ (w : World) (B : Nat) (t : TypeId) (size : Nat) : Ow w B t size none 0 0 [] := ⟨Nat.le_refl _, by simp, fun h => absurd h (by omega)⟩

def ClPost (t : TypeId) (size n : Nat) (xs : List Value) (w : World) (e : Ending) (w' : World) : Prop :=
  ∃ A c, e = .returned (.slice A n c) ∧ Ow w' w.heap.size t size A n c xs ∧ Below w.heap.size w w'

set_option maxRecDepth 100000 in
set_option maxHeartbeats 1600000 in
theorem cloneC_any (A : Option Addr) (n c : Nat) (C : List Cr) (w : World) (hC : Sl w w.heap.size 3 A n c (crC C)) (hb : n ≤ 65536) :
    Calls Tryd.prog 63 #[.slice A n c] w (ClPost 51 3 n (crC C) w) := by
  obtain ⟨i0, ii1, ii2, ii3, ii4⟩ := info_parts Tryd.info60
  have q22 : ∀ (w : World) (a : Option Addr) (n c n' c' : Nat), (binOp .eql 33 (.slice a n c) (.slice none n' c')).run Tryd.prog w = .ok (.bool a.isNone) w := fun w a n c n' c' => Lib.run_eql_slice_nil w _ _ a n c n' c' Tryd.underlying33
  cases A with
  | none =>
    have hn : n = 0 := by
      by_cases h : n = 0
      · exact h
      · obtain ⟨b, off, e, _⟩ := hC.2.2 (by omega); cases e
    subst hn
    have hx : crC C = [] := List.eq_nil_of_length_eq_zero (by simpa using hC.2.1)
    have HX := Lib.hid hx
    clear hC hx
    go_enter Tryd.func63, Tryd.ntmps63
    go_wp2_with (fail)
    go_ret
    exact ⟨none, 0, rfl, by rw [HX.out]; exact Ow.nil_ _ _ _ _, Below.refl _ _⟩
  | some a =>
    have HC := Lib.hid (hC.below (ba w (.cells #[] 51)))
    clear hC
    go_enter Tryd.func63, Tryd.ntmps63
    go_wp2_with (at_builtin; refine wpList_append_fresh rfl _ _ 33 rfl 51 i0 _ 3 24 Tryd.underlying33 ii1 ii2 ii3 ii4 rfl (by decide) ⟨w.heap.size, 0, none⟩ rfl (some a) n c (crC C) rfl HC.out (by unfold maxLen; omega) (by omega) ?_)
    intro A1 c1 w1 hown hb1
    go_wp2_with (fail)
    go_ret
    exact ⟨A1, c1, rfl, hown.more (by simp), bx (o := .cells #[] 51) (by simpa using hb1)⟩

set_option maxRecDepth 100000 in
set_option maxHeartbeats 1600000 in
theorem cloneI_any (A : Option Addr) (n c : Nat) (S : List Int) (w : World) (hC : Sl w w.heap.size 1 A n c (intC S)) (hb : n ≤ 65536) :
    Calls Tryd.prog 64 #[.slice A n c] w (ClPost 3 1 n (intC S) w) := by
  obtain ⟨i0, ii1, ii2, ii3, ii4⟩ := info_parts Tryd.info3'
  have q22 : ∀ (w : World) (a : Option Addr) (n c n' c' : Nat), (binOp .eql 34 (.slice a n c) (.slice none n' c')).run Tryd.prog w = .ok (.bool a.isNone) w := fun w a n c n' c' => Lib.run_eql_slice_nil w _ _ a n c n' c' Tryd.underlying34
  cases A with
  | none =>
    have hn : n = 0 := by
      by_cases h : n = 0
      · exact h
      · obtain ⟨b, off, e, _⟩ := hC.2.2 (by omega); cases e
    subst hn
    have hx : intC S = [] := List.eq_nil_of_length_eq_zero (by simpa using hC.2.1)
    have HX := Lib.hid hx
    clear hC hx
    go_enter Tryd.func64, Tryd.ntmps64
    go_wp2_with (fail)
    go_ret
    exact ⟨none, 0, rfl, by rw [HX.out]; exact Ow.nil_ _ _ _ _, Below.refl _ _⟩
  | some a =>
    have HC := Lib.hid (hC.below (ba w (.cells #[] 3)))
    clear hC
    go_enter Tryd.func64, Tryd.ntmps64
    go_wp2_with (at_builtin; refine wpList_append_fresh rfl _ _ 34 rfl 3 i0 _ 1 8 Tryd.underlying34 ii1 ii2 ii3 ii4 rfl (by decide) ⟨w.heap.size, 0, none⟩ rfl (some a) n c (intC S) rfl HC.out (by unfold maxLen; omega) (by omega) ?_)
    intro A1 c1 w1 hown hb1
    go_wp2_with (fail)
    go_ret
    exact ⟨A1, c1, rfl, hown.more (by simp), bx (o := .cells #[] 3) (by simpa using hb1)⟩

set_option maxRecDepth 100000 in
set_option maxHeartbeats 16000000 in
theorem clone_any (A A' : Option Addr) (n c m c' : Nat) (C : List Cr) (S : List Int) (w : World) (hC : Sl w w.heap.size 3 A n c (crC C)) (hS : Sl w w.heap.size 1 A' m c' (intC S)) (hb : n ≤ 65536) (hb2 : m ≤ 65536) :
    Calls Tryd.prog 73 #[.agg #[.slice A n c, .slice A' m c']] w (CopyPost n m C S w) := by
  have hR0 : CopyR w A n c A' m c' (((w.alloc (iObj A n c A' m c')).alloc zIn).drew) :=
    ⟨⟨_, _, by have := heap_alloc_new (w.alloc (iObj A n c A' m c')) zIn; rw [show (w.alloc (iObj A n c A' m c')).heap.size = w.heap.size + 1 by simp] at this; exact this⟩, (ba _ _).drew⟩
  have hz0 : (((w.alloc (iObj A n c A' m c')).alloc zIn).drew).heap.size = w.heap.size + 2 := by simp
  have HC := Lib.hid hC
  have HS := Lib.hid hS
  clear hC hS
  go_enter Tryd.func73, Tryd.ntmps73
  go_wp2_with (fail)
  go_region_held3 (fun w' => w'.cell? ⟨w.heap.size, 0, none⟩ = some (.slice A n c) ∧ w'.cell? ⟨w.heap.size, 1, none⟩ = some (.slice A' m c') ∧ CopyR w A n c A' m c' w')
    (first
      | exact hR0.held
      | exact ((hR0.below hb6).below hb10).held
      | exact (hR0.below hb6).held
      | exact (CopyR.store (And.right (And.right (by assumption))) _ _).held)
    (first
      | (go_at_call 63; refine (cloneC_any A n c C _ (CopyR.sl hR0 HC.out) hb).mono ?_; rintro e w6 ⟨A6, c6, rfl, hown6, hb6⟩)
      | (go_at_call 64; refine (cloneI_any A' m c' S _ (CopyR.sl (hR0.below hb6) HS.out) hb2).mono ?_; rintro e w10 ⟨A10, c10, rfl, hown10, hb10⟩; obtain ⟨⟨u0, u1, hBk⟩, hBl⟩ := (hR0.below hb6).below hb10; have r0 := hBk.cell 0; have r1 := hBk.cell 1; have f0 := hBk.frozen 0; have f1 := hBk.frozen 1; simp at r0 r1))
  go_wp2_with (fail)
  refine bodyPost_ret (v := .agg #[.slice A6 n c6, .slice A10 m c10]) ?_ rfl ?_
  · simp [results, Tryd.results73, go_sem, r0, r1]
    done
  · have hz6 : w.heap.size + 2 ≤ w6.heap.size := by have := hb6.size; omega
    have k6 : Ow w10 (w.heap.size + 2) 51 3 A6 n c6 (crC C) := (hown6.below hb10).more (by omega)
    have k10 : Ow w10 (w.heap.size + 2) 3 1 A10 m c10 (intC S) := hown10.more hz6
    exact ⟨A6, c6, A10, c10, rfl, ((k6.other (by omega) _ _).other (by omega) _ _).more (by omega), ((k10.other (by omega) _ _).other (by omega) _ _).more (by omega), ((bx hBl).setCell (by simp) _).setCell (by simp) _⟩

end Go.Proofs.YtbjmlbmkfgocdaaDoor
