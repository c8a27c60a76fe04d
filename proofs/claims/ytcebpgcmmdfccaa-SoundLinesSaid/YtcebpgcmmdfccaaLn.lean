/- Sound: the highest or the lowest pitch of each event (plain lists). -/
import Derived.Test.YtcebpgcmmdfccaaSndFn
namespace Go.Proofs.Ytcebpgcmmdfccaa
open Go Go.RowKit

def chV (hi : Bool) (a b : Int) : Int := if hi then max a b else min a b
def lnS (hi : Bool) (n p : Int) : Int := if n < 0 then p else chV hi n p
def lnF (hi : Bool) (l : List Int) : Int := l.foldl (lnS hi) (-1)
theorem lnS_bd {hi : Bool} {n p : Int} (h2 : 0 ≤ p) : 0 ≤ lnS hi n p := by
  unfold lnS chV
  split
  · exact h2
  split <;> omega
theorem foldl_bd {hi : Bool} : ∀ (l : List Int) (n : Int), -1 ≤ n → (∀ p ∈ l, 0 ≤ p) → -1 ≤ l.foldl (lnS hi) n
  | [], n, h, _ => h
  | p :: r, n, h, hp => by
    have := lnS_bd (hi := hi) (n := n) (hp p (List.mem_cons_self ..))
    exact foldl_bd r _ (by omega) (fun q hq => hp q (List.mem_cons_of_mem _ hq))
theorem lnF_snoc (hi : Bool) (l : List Int) (p : Int) : lnF hi (l ++ [p]) = lnS hi (lnF hi l) p := by simp [lnF]
/-- The pitches of one event's notes. -/
def pOf (T : List Nt) (i : Nat) : List Int := (T.filter fun t => decide (t.ev = (i : Int))).map fun t => t.p
def lnR (hi : Bool) (q : Nat) (T : List Nt) : List Int := (List.range q).map fun i => lnF hi (pOf T i)
def lnL (hi : Bool) (C : List Cr) (S : List Int) (P : List EvP) : List Int := if pcErr C S P = 0 then P.map fun y => lnF hi (y.L.map fun s => atP C S s.c s.f) else []
theorem lnR_len (hi : Bool) (q : Nat) (T : List Nt) : (lnR hi q T).length = q := by simp [lnR]
theorem lnR_at (hi : Bool) (q : Nat) (T : List Nt) {e : Nat} (he : e < q) : (lnR hi q T)[e]? = some (lnF hi (pOf T e)) := by simp [lnR, he]
theorem pOf_snoc (T : List Nt) (t : Nt) (i : Nat) : pOf (T ++ [t]) i = if t.ev = (i : Int) then pOf T i ++ [t.p] else pOf T i := by
  unfold pOf
  rw [List.filter_append, List.map_append]
  by_cases h : t.ev = (i : Int)
  · simp [h]
  · simp [h]
theorem lnR_step (hi : Bool) (q : Nat) (T : List Nt) {k e : Nat} (hk : k < T.length) (he : (T.getD k zNt).ev = (e : Int)) (hq : e < q) :
    lnR hi q (T.take (k + 1)) = (lnR hi q (T.take k)).set e (lnS hi (lnF hi (pOf (T.take k) e)) (T.getD k zNt).p) := by
  have et : T.take (k + 1) = T.take k ++ [T.getD k zNt] := by rw [List.take_add_one]; simp [List.getElem?_eq_getElem hk]
  rw [et]
  generalize T.getD k zNt = t at *
  apply List.ext_getElem?
  intro i
  rw [List.getElem?_set]
  by_cases hi2 : i < q
  · by_cases hei : e = i
    · subst hei
      rw [if_pos rfl, lnR_len, if_pos hi2, lnR_at _ _ _ hi2, pOf_snoc, if_pos he, lnF_snoc]
    · rw [if_neg hei, lnR_at _ _ _ hi2, lnR_at _ _ _ hi2, pOf_snoc, if_neg (by omega)]
  · rw [List.getElem?_eq_none (by rw [lnR_len]; omega), if_neg (by omega), List.getElem?_eq_none (by rw [lnR_len]; omega)]
theorem lnR_zero (hi : Bool) (q : Nat) (T : List Nt) : lnR hi q (T.take 0) = List.replicate q (-1) := by
  apply List.ext_getElem?
  intro i
  by_cases h : i < q
  · rw [lnR_at _ _ _ h]; simp [pOf, lnF, h]
  · rw [List.getElem?_eq_none (by rw [lnR_len]; omega), List.getElem?_eq_none (by simp; omega)]
theorem lnR_bd {hi : Bool} {T : List Nt} {k : Nat} (h : ∀ t ∈ T, 0 ≤ t.p) (i : Nat) : -1 ≤ lnF hi (pOf (T.take k) i) := by
  refine foldl_bd _ _ (by omega) (fun p hp => ?_)
  obtain ⟨t, ht, rfl⟩ := List.mem_map.1 hp
  exact h t (List.mem_of_mem_take (List.mem_filter.1 ht).1)
theorem pyGo_ev {C : List Cr} {S : List Int} {P : List EvP} {O : List Int} : ∀ (Q : List EvP) (a i : Nat), pOf ((pyGo C S P O a Q).map fun x => x.t) i = if a ≤ i ∧ i < a + Q.length then (Q.getD (i - a) z6).L.map (fun s => atP C S s.c s.f) else []
  | [], a, i => by
    rw [if_neg (by simp)]
    rfl
  | y :: r, a, i => by
    have ih := pyGo_ev (C := C) (S := S) (P := P) (O := O) r (a + 1) i
    have e : pOf ((pyGo C S P O a (y :: r)).map fun x => x.t) i = pOf ((pyEv C S P O a y.L).map fun x => x.t) i ++ pOf ((pyGo C S P O (a + 1) r).map fun x => x.t) i := by
      rw [pyGo]
      simp [pOf]
    rw [e, ih]
    by_cases hai : a = i
    · subst hai
      rw [if_neg (by omega), if_pos ⟨Nat.le_refl _, by simp⟩, List.append_nil]
      simp [pOf, pyEv, pyOf, List.filter_eq_self.2, Function.comp_def]
    · have h0 : pOf ((pyEv C S P O a y.L).map fun x => x.t) i = [] := by
        unfold pOf pyEv
        rw [List.map_map, List.filter_eq_nil_iff.2 (by
          intro t ht
          obtain ⟨s, _, rfl⟩ := List.mem_map.1 ht
          show ¬ (decide (((a : Nat) : Int) = (i : Int)) = true)
          rw [decide_eq_true_iff]
          omega)]
        rfl
      rw [h0, List.nil_append]
      by_cases hc : a + 1 ≤ i ∧ i < a + 1 + r.length
      · rw [if_pos hc, if_pos (by simp; omega), show i - a = (i - (a + 1)) + 1 by omega]
        rfl
      · rw [if_neg hc, if_neg (by simp; omega)]
theorem lnR_all {hi : Bool} {C : List Cr} {S : List Int} {P : List EvP} (h : pcErr C S P = 0) : lnR hi P.length (ntL C S P) = lnL hi C S P := by
  unfold lnL
  rw [if_pos h]
  apply List.ext_getElem?
  intro i
  by_cases hi2 : i < P.length
  · rw [lnR_at _ _ _ hi2]
    unfold ntL pyL
    rw [if_pos h, pyGo_ev, if_pos ⟨Nat.zero_le _, by omega⟩]
    simp [List.getElem?_eq_getElem hi2]
  · rw [List.getElem?_eq_none (by rw [lnR_len]; omega), List.getElem?_eq_none (by simp; omega)]
theorem ntL_ev {C : List Cr} {S : List Int} {P : List EvP} : ∀ t ∈ ntL C S P, ∃ e : Nat, t.ev = (e : Int) ∧ e < P.length := by
  intro t ht
  obtain ⟨x, hx, rfl⟩ := List.mem_map.1 ht
  obtain ⟨_, j, y, s, hj, _, _, rfl⟩ := pyL_mem hx
  exact ⟨j, rfl, (List.getElem?_eq_some_iff.1 hj).1⟩

end Go.Proofs.Ytcebpgcmmdfccaa
