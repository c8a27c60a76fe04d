/- Sound: why each note ends (cause, Causes), for any piece. -/
import Derived.Test.YtpcehgifpajmbaaSndRG
import Derived.Test.YtpcehgifpajmbaaSndAt2
namespace Go.Proofs.Ytpcehgifpajmbaa
open Go Go.RowKit

/-- Why a note ends: at the end, at a stop on its course, at a rest, because the finger leaves. -/
def csOf (P : List EvP) (u : Nat) (c : Int) : Int := if u = P.length then 4 else if hsB (P.getD u z6).L c then 1 else if restB (P.getD u z6) then 2 else 3
def csL (C : List Cr) (S : List Int) (P : List EvP) : List Int := (pyL C S P).map fun x => csOf P x.u.toNat x.t.c

theorem cell7 {w w1 : World} {u0 u1 u2 u3 u4 u5 u6 : Value} {T : TypeId} (h : Below (w.alloc (.cells #[u0, u1, u2, u3, u4, u5, u6] T)).heap.size (w.alloc (.cells #[u0, u1, u2, u3, u4, u5, u6] T)) w1) :
    w1.cell? ⟨w.heap.size, 0, none⟩ = some u0 ∧ w1.cell? ⟨w.heap.size, 1, none⟩ = some u1 ∧ w1.cell? ⟨w.heap.size, 2, none⟩ = some u2 ∧ w1.cell? ⟨w.heap.size, 3, none⟩ = some u3 ∧ w1.cell? ⟨w.heap.size, 4, none⟩ = some u4 ∧ w1.cell? ⟨w.heap.size, 5, none⟩ = some u5 ∧ w1.cell? ⟨w.heap.size, 6, none⟩ = some u6 :=
  ⟨by simpa using (keepb h 0).1, by simpa using (keepb h 1).1, by simpa using (keepb h 2).1, by simpa using (keepb h 3).1, by simpa using (keepb h 4).1, by simpa using (keepb h 5).1, by simpa using (keepb h 6).1⟩
abbrev pyO (x0 x1 x2 x3 x4 x5 x6 : Int) : Obj := .cells #[.int .i64 x0, .int .i64 x1, .int .i64 x2, .int .i64 x3, .int .i64 x4, .int .i64 x5, .int .i64 x6] 70
abbrev pyV (x0 x1 x2 x3 x4 x5 x6 : Int) : Value := .agg #[.int .i64 x0, .int .i64 x1, .int .i64 x2, .int .i64 x3, .int .i64 x4, .int .i64 x5, .int .i64 x6]

/-- A list of numbers that is being filled. -/
def CfR (w wr : World) (g n : Nat) (T : List Int) (k : Nat) : Prop :=
  Below w.heap.size w wr ∧ w.heap.size ≤ g ∧ ∃ cur, Blk wr g 3 cur ∧ cur.size = n ∧ ∀ (j : Nat) (u : Value), j < k → (intC T)[j]? = some u → cur[j]? = some u
theorem CfR.below {w wr w' : World} {g n : Nat} {T : List Int} {k : Nat} (h : CfR w wr g n T k) (hb : Below wr.heap.size wr w') : CfR w w' g n T k := by
  obtain ⟨h1, h2, cur, h3, h4, h5⟩ := h
  exact ⟨bt h1 hb, h2, cur, h3.below hb, h4, h5⟩
theorem CfR.some_ {w wr : World} {g n : Nat} {T : List Int} {k : Nat} (h : CfR w wr g n T k) {j : Nat} (hj : j < n) : (∃ u, wr.cell? ⟨g, j, none⟩ = some u) ∧ wr.frozen? ⟨g, j, none⟩ = false ∧ g < wr.heap.size := by
  obtain ⟨h1, h2, cur, h3, h4, h5⟩ := h
  exact ⟨⟨cur[j]'(by omega), by rw [h3.cell j]; simp [show j < cur.size by omega]⟩, h3.frozen j, h3.lt⟩
theorem CfR.put {w wr : World} {g n : Nat} {T : List Int} {k : Nat} (h : CfR w wr g n T k) (hk : k < n) (x : Int) (hx : (intC T)[k]? = some (.int .i64 x)) :
    CfR w (wr.setCell ⟨g, k, none⟩ (.int .i64 x)) g n T (k + 1) := by
  obtain ⟨h1, h2, cur, h3, h4, h5⟩ := h
  refine ⟨h1.setCell h2 _, h2, _, h3.set_ _ _, by simp [h4], fun j u hj hu => ?_⟩
  simp only [Array.getElem?_setIfInBounds]
  by_cases hjk : j = k
  · subst hjk
    rw [if_pos rfl, if_pos (by omega), ← hx, hu]
  · rw [if_neg (by omega)]
    exact h5 j u (by omega) hu
theorem CfR.sl {w wr : World} {g n : Nat} {T : List Int} (h : CfR w wr g n T n) (hT : n = T.length) : Sl wr wr.heap.size 1 (some ⟨g, 0, none⟩) n n (intC T) := by
  obtain ⟨h1, h2, cur, h3, h4, h5⟩ := h
  refine ⟨Nat.le_refl _, by simp [intC, hT], fun _ => ⟨g, 0, rfl, h3.lt, fun j u hu => ?_⟩⟩
  rw [Nat.zero_add, h3.cell j]
  refine h5 j u ?_ hu
  have := (List.getElem?_eq_some_iff.1 hu).1
  simp [intC] at this
  omega
theorem csL_at {C : List Cr} {S : List Int} {P : List EvP} {k : Nat} (hk : k < (pyL C S P).length) : (intC (csL C S P))[k]? = some (.int .i64 (csOf P ((pyL C S P).getD k zPy).u.toNat ((pyL C S P).getD k zPy).t.c)) := by
  unfold intC csL
  simp [List.getElem?_map, List.getElem?_eq_getElem hk]
theorem pyL_u {C : List Cr} {S : List Int} {P : List EvP} {k : Nat} (hk : k < (pyL C S P).length) : ∃ u : Nat, ((pyL C S P).getD k zPy).u = u ∧ u ≤ P.length := by
  have hm : (pyL C S P).getD k zPy ∈ pyL C S P := by
    rw [show (pyL C S P).getD k zPy = (pyL C S P)[k] by simp [List.getElem?_eq_getElem hk]]
    exact List.getElem_mem hk
  obtain ⟨_, j, y, s, hj, hs, hok, e⟩ := pyL_mem hm
  rw [e]
  exact ⟨_, rfl, (endN_bd ((List.getElem?_eq_some_iff.1 hj).1) hok).2⟩

end Go.Proofs.Ytpcehgifpajmbaa
