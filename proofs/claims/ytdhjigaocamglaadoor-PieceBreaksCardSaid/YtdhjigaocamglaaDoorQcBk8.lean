/- Pieces: the reference's Break: the lists, and what its loops keep. -/
import Derived.Test.YtdhjigaocamglaaDoorQcBk7
import Derived.Test.YtdhjigaocamglaaDoorQcVt
import Derived.Test.YtdhjigaocamglaaDoorQcBk5
import Derived.Test.YtdhjigaocamglaaDoorQcAp3
namespace Go.Proofs.YtdhjigaocamglaaDoor
open Go Go.RowKit

/-- The first event of a block has its stops. -/
def stH (L : List St) : List EvP → List EvP
  | [] => []
  | z :: r => { z with L := L } :: r
theorem stH_len (L : List St) (l : List EvP) : (stH L l).length = l.length := by cases l <;> rfl
theorem stH_at {L : List St} {l : List EvP} {j : Nat} {y : EvP} (h : l[j]? = some y) : (stH L l)[j]? = some { y with L := if j = 0 then L else y.L } := by
  cases l with
  | nil => simp at h
  | cons z r =>
    cases j with
    | zero =>
      obtain rfl : z = y := by simpa using h
      rfl
    | succ j =>
      have : r[j]? = some y := by simpa using h
      simpa [stH] using this
/-- The events so far, with their own stops. -/
structure AtI (Y : List TmP) (a : BrS) (Q : List EvP) : Prop where
  len : Q.length = a.ev.length
  at_ : ∀ (j : Nat) (y : EvP), a.ev[j]? = some y → ∃ L, Q[j]? = some { y with L := L } ∧ ((∃ i p, Y[i]? = some p ∧ a.bc.getD i 0 = j ∧ L = p.y.L) ∨ (L = [] ∧ ∀ i, i < Y.length → a.bc.getD i 0 ≠ j))
theorem atI_nil : AtI [] ⟨[], []⟩ [] := ⟨rfl, fun j y h => by simp at h⟩
theorem atI_step {bar : Int} {Y : List TmP} {a : BrS} {Q : List EvP} {p : TmP} {l : List EvP} (hb : 1 ≤ bar) (hf : p.fm < p.to) (hI : BrI Y a) (h : AtI Y a Q) (hl : brF bar p = some l) : AtI (Y ++ [p]) ⟨a.ev ++ l, a.bc ++ [(a.ev.length : Int)]⟩ (Q ++ stH p.y.L l) := by
  have hold : ∀ i, i < Y.length → (a.bc ++ [(a.ev.length : Int)]).getD i 0 = a.bc.getD i 0 := fun i hi => by rw [getD_app, if_pos (by rw [hI.bl]; exact hi)]
  have hnew : (a.bc ++ [(a.ev.length : Int)]).getD Y.length 0 = a.ev.length := by rw [getD_app, hI.bl, if_neg (by omega), if_pos rfl]
  refine ⟨by simp [h.len, stH_len], fun j y hy => ?_⟩
  have hy' : (a.ev ++ l)[j]? = some y := hy
  show ∃ L, (Q ++ stH p.y.L l)[j]? = some { y with L := L } ∧ ((∃ i p', (Y ++ [p])[i]? = some p' ∧ (a.bc ++ [(a.ev.length : Int)]).getD i 0 = j ∧ L = p'.y.L) ∨ (L = [] ∧ ∀ i, i < (Y ++ [p]).length → (a.bc ++ [(a.ev.length : Int)]).getD i 0 ≠ j))
  by_cases hj : j < a.ev.length
  · rw [List.getElem?_append_left hj] at hy'
    obtain ⟨L, h1, h2⟩ := h.at_ j y hy'
    refine ⟨L, by rw [List.getElem?_append_left (by rw [h.len]; exact hj)]; exact h1, ?_⟩
    rcases h2 with ⟨i, p', e1, e2, e3⟩ | ⟨e1, e2⟩
    · have hi : i < Y.length := (List.getElem?_eq_some_iff.1 e1).1
      exact .inl ⟨i, p', by rw [List.getElem?_append_left hi]; exact e1, by rw [hold i hi]; exact e2, e3⟩
    · refine .inr ⟨e1, fun i hi => ?_⟩
      rw [List.length_append, List.length_singleton] at hi
      by_cases e : i = Y.length
      · rw [e, hnew]; omega
      · rw [hold i (by omega)]; exact e2 i (by omega)
  · rw [List.getElem?_append_right (by omega)] at hy'
    have h3 := stH_at (L := p.y.L) hy'
    have hL := (brF_get hb hf hl _ y hy').1
    refine ⟨_, by rw [List.getElem?_append_right (by rw [h.len]; omega), h.len]; exact h3, ?_⟩
    by_cases e : j - a.ev.length = 0
    · rw [if_pos e]
      exact .inl ⟨Y.length, p, by simp, by rw [hnew]; omega, rfl⟩
    · rw [if_neg e]
      refine .inr ⟨hL, fun i hi => ?_⟩
      rw [List.length_append, List.length_singleton] at hi
      by_cases e2 : i = Y.length
      · rw [e2, hnew]; omega
      · rw [hold i (by omega)]
        have := hI.bd i (by omega)
        omega
/-- How far the holds have been written. -/
def part (B : List Int) (P : List EvP) (i k i' : Nat) : List St :=
  if i' < i then (P.getD i' z6).L.map (mvS B i') else if i' = i then ((P.getD i z6).L.take k).map (mvS B i) ++ (P.getD i z6).L.drop k else (P.getD i' z6).L
structure HoI (P : List EvP) (a : BrS) (i k : Nat) (Q : List EvP) : Prop where
  len : Q.length = a.ev.length
  at_ : ∀ (j : Nat) (y : EvP), a.ev[j]? = some y → ∃ L, Q[j]? = some { y with L := L } ∧ ((∃ i', i' < P.length ∧ a.bc.getD i' 0 = j ∧ L = part a.bc P i k i') ∨ (L = [] ∧ ∀ i', i' < P.length → a.bc.getD i' 0 ≠ j))
theorem hoI_start {P : List EvP} {a : BrS} {Q : List EvP} (h : AtI (tpL P) a Q) : HoI P a 0 0 Q := by
  have hlen : (tpL P).length = P.length := tmPL_len P 0 0 false false 0
  refine ⟨h.len, fun j y hy => ?_⟩
  obtain ⟨L, h1, h2⟩ := h.at_ j y hy
  refine ⟨L, h1, ?_⟩
  rcases h2 with ⟨i, p, e1, e2, e3⟩ | ⟨e1, e2⟩
  · have hx := tmPL_yv P 0 0 false false 0 i p e1
    refine .inl ⟨i, (List.getElem?_eq_some_iff.1 hx).1, e2, ?_⟩
    rw [e3]
    have e4 : (P.getD i z6).L = p.y.L := by rw [getD_get hx]
    unfold part
    rw [if_neg (by omega)]
    by_cases e : i = 0
    · rw [if_pos e]
      subst e
      rw [List.take_zero, List.drop_zero, List.map_nil, List.nil_append, e4]
    · rw [if_neg e, e4]
  · exact .inr ⟨e1, fun i' hi => e2 i' (by rw [hlen]; exact hi)⟩
theorem hoI_next {P : List EvP} {a : BrS} {i k : Nat} {Q : List EvP} (h : HoI P a i k Q) (hk : (P.getD i z6).L.length ≤ k) : HoI P a (i + 1) 0 Q := by
  refine ⟨h.len, fun j y hy => ?_⟩
  obtain ⟨L, h1, h2⟩ := h.at_ j y hy
  refine ⟨L, h1, ?_⟩
  rcases h2 with ⟨i', e1, e2, e3⟩ | h2
  · refine .inl ⟨i', e1, e2, e3.trans ?_⟩
    unfold part
    by_cases c1 : i' < i
    · rw [if_pos c1, if_pos (by omega)]
    · rw [if_neg c1]
      by_cases c2 : i' = i
      · rw [if_pos c2, if_pos (by omega), List.take_of_length_le hk, List.drop_of_length_le hk, List.append_nil, c2]
      · rw [if_neg c2, if_neg (by omega)]
        by_cases c3 : i' = i + 1
        · rw [if_pos c3]
          subst c3
          simp
        · rw [if_neg c3]
  · exact .inr h2
/-- What the lists tell of an event's first one, and one hold more. -/
theorem hoI_set {C : List Cr} {S : List Int} {P : List EvP} {bar : Int} {a : BrS} {i k : Nat} {Q : List EvP} (h0 : pcErr C S P = 0) (hb : 1 ≤ bar) (ha : brAll bar P = some a) (h : HoI P a i k Q) (hi : i < P.length) (hk : k < (P.getD i z6).L.length) :
    ∃ y s, Q[(a.bc.getD i 0).toNat]? = some y ∧ y.L.length = (P.getD i z6).L.length ∧ (P.getD i z6).L[k]? = some s ∧ y.L[k]? = some s ∧ HoI P a i (k + 1) (Q.set (a.bc.getD i 0).toNat { y with L := y.L.set k (mvS a.bc i s) }) := by
  have hI := break_own h0 hb ha
  have hlen : (tpL P).length = P.length := tmPL_len P 0 0 false false 0
  have hinc : ∀ i k, i < k → k < P.length → a.bc.getD i 0 < a.bc.getD k 0 := fun i k h1 h2 => hI.inc i k h1 (by rw [hlen]; exact h2)
  have hbd : ∀ i, i < P.length → 0 ≤ a.bc.getD i 0 ∧ a.bc.getD i 0 < a.ev.length := fun i h => hI.bd i (by rw [hlen]; exact h)
  have hinj : ∀ i2, i2 < P.length → a.bc.getD i2 0 = a.bc.getD i 0 → i2 = i := fun i2 h1 h2 => by
    rcases Nat.lt_trichotomy i2 i with h | h | h
    · have := hinc i2 i h hi; omega
    · exact h
    · have := hinc i i2 h h1; omega
  have hbi := hbd i hi
  obtain ⟨L, h1, h2⟩ := h.at_ (a.bc.getD i 0).toNat _ (List.getElem?_eq_getElem (show (a.bc.getD i 0).toNat < a.ev.length by omega))
  have hL : L = part a.bc P i k i := by
    rcases h2 with ⟨i', e1, e2, e3⟩ | ⟨_, e2⟩
    · have := hinj i' e1 (by omega)
      rw [this] at e3
      exact e3
    · exact absurd (show a.bc.getD i 0 = (((a.bc.getD i 0).toNat : Nat) : Int) by omega) (e2 i hi)
  have hp : part a.bc P i k i = ((P.getD i z6).L.take k).map (mvS a.bc i) ++ (P.getD i z6).L.drop k := by unfold part; rw [if_neg (by omega), if_pos rfl]
  have hs := List.getElem?_eq_getElem hk
  have hlk : (((P.getD i z6).L.take k).map (mvS a.bc i)).length = k := by rw [List.length_map, List.length_take]; omega
  have hpk : (part a.bc P i k i)[k]? = some (P.getD i z6).L[k] := by
    rw [hp, List.getElem?_append_right (by omega), hlk, List.getElem?_drop, show k + (k - k) = k by omega]
    exact hs
  have hps : (part a.bc P i k i).set k (mvS a.bc i (P.getD i z6).L[k]) = part a.bc P i (k + 1) i := by
    rw [hp]
    unfold part
    rw [if_neg (by omega), if_pos rfl, List.set_append_right _ _ (by omega), hlk, show k - k = 0 by omega, List.drop_eq_getElem_cons hk, List.set_cons_zero, List.take_succ_eq_append_getElem hk, List.map_append, List.append_assoc]
    rfl
  refine ⟨_, _, h1, ?_, hs, by rw [hL]; exact hpk, ?_⟩
  · show L.length = _
    rw [hL, hp, List.length_append, hlk, List.length_drop]; omega
  · refine ⟨by rw [List.length_set]; exact h.len, fun j y hy => ?_⟩
    by_cases hj : (a.bc.getD i 0).toNat = j
    · subst hj
      have hyy := List.getElem?_eq_getElem (show (a.bc.getD i 0).toNat < a.ev.length by omega)
      rw [hyy] at hy
      injection hy with hy
      refine ⟨part a.bc P i (k + 1) i, ?_, .inl ⟨i, hi, by omega, rfl⟩⟩
      rw [List.getElem?_set_self (by rw [h.len]; omega), hy]
      dsimp only
      rw [hL, hps]
    · rw [List.getElem?_set_ne hj]
      obtain ⟨L', g1, g2⟩ := h.at_ j y hy
      refine ⟨L', g1, ?_⟩
      rcases g2 with ⟨i', e1, e2, e3⟩ | g2
      · refine .inl ⟨i', e1, e2, e3.trans ?_⟩
        have hne : i' ≠ i := fun e => by subst e; omega
        unfold part
        by_cases c1 : i' < i
        · rw [if_pos c1, if_pos c1]
        · rw [if_neg c1, if_neg hne, if_neg c1, if_neg hne]
      · exact .inr g2
theorem hoI_end {C : List Cr} {S : List Int} {P : List EvP} {bar : Int} {a : BrS} {Q : List EvP} (h0 : pcErr C S P = 0) (hb : 1 ≤ bar) (ha : brAll bar P = some a) (h : HoI P a P.length 0 Q) : Q = mvL a.bc P P.length a.ev := by
  have hI := break_own h0 hb ha
  have hlen : (tpL P).length = P.length := tmPL_len P 0 0 false false 0
  have hinc : ∀ i k, i < k → k < P.length → a.bc.getD i 0 < a.bc.getD k 0 := fun i k h1 h2 => hI.inc i k h1 (by rw [hlen]; exact h2)
  have hbd : ∀ i, i < P.length → 0 ≤ a.bc.getD i 0 ∧ a.bc.getD i 0 < a.ev.length := fun i h => hI.bd i (by rw [hlen]; exact h)
  refine List.ext_getElem? (fun j => ?_)
  by_cases hj : j < a.ev.length
  · have hy := List.getElem?_eq_getElem hj
    have hyL := (hI.ev j _ hy).1
    obtain ⟨L, h1, h2⟩ := h.at_ j _ hy
    rw [h1]
    rcases mvL_at a.bc P a.ev j _ hy P.length with ⟨i2, g1, g2, g3, e⟩ | ⟨g1, e⟩
    · rw [e]
      have hb2 := hbd i2 g1
      rcases h2 with ⟨i', e1, e2, e3⟩ | ⟨_, e2⟩
      · have : i' = i2 := by
          rcases Nat.lt_trichotomy i' i2 with h | h | h
          · have := hinc i' i2 h g1; omega
          · exact h
          · have := hinc i2 i' h e1; omega
        subst this
        rw [e3]
        unfold part
        rw [if_pos e1]
      · exact absurd (show a.bc.getD i2 0 = (j : Int) by omega) (e2 i2 g1)
    · rw [e]
      have : L = [] := by
        rcases h2 with ⟨i', e1, e2, e3⟩ | ⟨e1, _⟩
        · have hb2 := hbd i' e1
          have := g1 i' e1 (by omega)
          rw [e3]
          unfold part
          rw [if_pos e1, this]
          rfl
        · exact e1
      rw [this, ← hyL]
  · rw [List.getElem?_eq_none (by rw [h.len]; omega), List.getElem?_eq_none (by rw [mvL_len]; omega)]
/-- A hold that is too long is one of the result's. -/
theorem ht_any {C : List Cr} {S : List Int} {P : List EvP} {bar : Int} {a : BrS} (h0 : pcErr C S P = 0) (hb : 1 ≤ bar) (ha : brAll bar P = some a) {i k : Nat} {s : St} (hi : i < P.length) (hs : (P.getD i z6).L[k]? = some s) (hh : 15 < a.bc.getD (i + s.h.toNat) 0 - a.bc.getD i 0) : (mvL a.bc P P.length a.ev).any htE = true := by
  have hI := break_own h0 hb ha
  have hlen : (tpL P).length = P.length := tmPL_len P 0 0 false false 0
  have hinc : ∀ i k, i < k → k < P.length → a.bc.getD i 0 < a.bc.getD k 0 := fun i k h1 h2 => hI.inc i k h1 (by rw [hlen]; exact h2)
  have hbd : ∀ i, i < P.length → 0 ≤ a.bc.getD i 0 ∧ a.bc.getD i 0 < a.ev.length := fun i h => hI.bd i (by rw [hlen]; exact h)
  have hbi := hbd i hi
  have hy := List.getElem?_eq_getElem (show (a.bc.getD i 0).toNat < a.ev.length by omega)
  rcases mvL_at a.bc P a.ev _ _ hy P.length with ⟨i2, g1, g2, g3, e⟩ | ⟨g1, e⟩
  · have hb2 := hbd i2 g1
    have : i2 = i := by
      rcases Nat.lt_trichotomy i2 i with h | h | h
      · have := hinc i2 i h hi; omega
      · exact h
      · have := hinc i i2 h g1; omega
    subst this
    refine List.any_eq_true.2 ⟨_, List.mem_of_getElem? e, ?_⟩
    refine List.any_eq_true.2 ⟨mvS a.bc i2 s, List.mem_map_of_mem (List.mem_of_getElem? hs), ?_⟩
    show decide (15 < (mvS a.bc i2 s).h) = true
    exact decide_eq_true hh
  · have := g1 i hi rfl
    rw [this] at hs
    simp at hs
theorem ht_none {C : List Cr} {S : List Int} {P : List EvP} {bar : Int} {a : BrS} (h0 : pcErr C S P = 0) (hb : 1 ≤ bar) (ha : brAll bar P = some a) (h : ∀ (i k : Nat) (s : St), i < P.length → (P.getD i z6).L[k]? = some s → a.bc.getD (i + s.h.toNat) 0 - a.bc.getD i 0 ≤ 15) : (mvL a.bc P P.length a.ev).any htE = false := by
  have hI := break_own h0 hb ha
  cases hx : (mvL a.bc P P.length a.ev).any htE with
  | false => rfl
  | true =>
    obtain ⟨y', hy', h1⟩ := List.any_eq_true.1 hx
    obtain ⟨s', hs', h2⟩ := List.any_eq_true.1 h1
    have h3 : 15 < s'.h := of_decide_eq_true h2
    obtain ⟨j, hj, rfl⟩ := List.getElem_of_mem hy'
    have hj' := List.getElem?_eq_getElem hj
    have hje : j < a.ev.length := by rwa [mvL_len] at hj
    have hy := List.getElem?_eq_getElem hje
    rcases mvL_at a.bc P a.ev j _ hy P.length with ⟨i2, g1, g2, g3, e⟩ | ⟨_, e⟩
    · rw [hj'] at e
      injection e with e
      rw [e] at hs'
      obtain ⟨s, hs, rfl⟩ := List.mem_map.1 hs'
      obtain ⟨k, hk, rfl⟩ := List.getElem_of_mem hs
      have := h i2 k _ g1 (List.getElem?_eq_getElem hk)
      have e2 : (mvS a.bc i2 (P.getD i2 z6).L[k]).h = a.bc.getD (i2 + ((P.getD i2 z6).L[k]).h.toNat) 0 - a.bc.getD i2 0 := rfl
      omega
    · rw [hj'] at e
      injection e with e
      rw [e, (hI.ev j _ hy).1] at hs'
      cases hs'

theorem brLen {P : List EvP} {C : List Cr} {S : List Int} (h0 : pcErr C S P = 0) {bar : Int} (hb : 1 ≤ bar) {k : Nat} {a : BrS} (hk : k ≤ P.length) (ha : brGo bar ((tpL P).take k) ⟨[], []⟩ = some a) : a.ev.length ≤ 57600 := by
  obtain ⟨T, h1, _, h3⟩ := br_ok hb P 0 0 false false 0 0 ⟨[], []⟩ a k (fun p hp => (tm_pos h0 p hp).2) ⟨rfl, by simp, fun x hx => by simp at hx, fun y hy => by simp at hy⟩ hk ha
  have h4 := h1.el
  have := (pcErr_ok h0).2.1
  omega
theorem brAll_none {P : List EvP} {bar : Int} {i : Nat} {p : TmP} {a : BrS} (ha : brGo bar ((tpL P).take i) ⟨[], []⟩ = some a) (hp : (tpL P)[i]? = some p) (hf : brF bar p = none) : brAll bar P = none := by
  unfold brAll
  have hi : i < (tpL P).length := (List.getElem?_eq_some_iff.1 hp).1
  have e : tpL P = (tpL P).take i ++ (p :: (tpL P).drop (i + 1)) := by
    have h1 : (tpL P)[i] = p := (List.getElem?_eq_some_iff.1 hp).2
    rw [← h1, ← List.drop_eq_getElem_cons hi, List.take_append_drop]
  rw [e, brGo_app, ha]
  show brGo bar (p :: (tpL P).drop (i + 1)) a = none
  simp only [brGo, hf]
theorem take_snocB {α : Type} {X : List α} {i : Nat} {p : α} (hp : X[i]? = some p) : X.take (i + 1) = X.take i ++ [p] := by
  rw [List.take_add_one, hp]
  rfl
theorem hdT_at {yi : Bool} {sa : Option Addr} {n c : Nat} {l : List EvP} (k : Nat) (z : EvT) (h : (hdT yi sa n c (l.map zT))[k]? = some z) : (k = 0 ∧ z.sa = sa ∧ z.sn = n ∧ z.sc = c) ∨ (0 < k ∧ z.sn = 0) := by
  cases l with
  | nil => simp [hdT] at h
  | cons y r =>
    cases k with
    | zero =>
      simp [hdT] at h
      subst h
      exact .inl ⟨rfl, rfl, rfl, rfl⟩
    | succ k =>
      have h' : (r.map zT)[k]? = some z := by simpa [hdT] using h
      rw [List.getElem?_map] at h'
      obtain ⟨y', _, rfl⟩ := Option.map_eq_some_iff.1 h'
      exact .inr ⟨by omega, rfl⟩

/-! ### The first loop's memory -/
theorem cpe_blk {w : World} {b : Nat} {yi : Bool} {sa : Option Addr} {sc : Nat} {L : List St} {l : List EvP} (hO : Ow w b 62 5 sa L.length sc (stC L)) (h : ∀ y ∈ l, y.L = []) : CpE w b (hdT yi sa L.length sc (l.map zT)) (stH L (tie1 yi l)) := by
  cases l with
  | nil => intro j x y hx _; simp [hdT] at hx
  | cons z r =>
    intro j x y hx hy
    cases j with
    | zero =>
      simp [hdT] at hx
      simp [stH, tie1] at hy
      subst hx hy
      exact ⟨⟨rfl, rfl, rfl, rfl, rfl, rfl⟩, hO⟩
    | succ j =>
      have hx' : (r.map zT)[j]? = some x := by simpa [hdT] using hx
      have hy' : r[j]? = some y := by simpa [stH, tie1] using hy
      exact cpe_zT w b (ev := r) (fun y hy => h y (List.mem_cons_of_mem _ hy)) j x y hx' hy'
structure BrO (W5 : World) (b ob : Nat) (u0 u1 v bv : Value) (E : List EvT) (i : Nat) (Q : List EvP) (X : List EvT) (bc : List Int) (W : World) : Prop where
  o : Blk W ob 28 #[u0, u1, v]
  row : W.ownsRow W5.heap.size 51 6 v Q.length (evC X)
  xl : X.length = Q.length
  brow : W.ownsRow W5.heap.size 3 1 bv bc.length (intC bc)
  cp : CpE W5 b X Q
  src : ∀ (k : Nat) (x : EvT), X[k]? = some x → x.sn = 0 ∨ ∃ j z, j < i ∧ E[j]? = some z ∧ z.sa = x.sa ∧ z.sn = x.sn
  dst : DstE X
  fst : ∀ (j : Nat) (z : EvT), j < bc.length → E[j]? = some z → (bc.getD j 0).toNat < X.length → ∃ x, X[(bc.getD j 0).toNat]? = some x ∧ x.sa = z.sa ∧ x.sn = z.sn ∧ x.sc = z.sc
  kx : Kx (fun k => k = ob) W5.heap.size W5 W
theorem row_keep {W w6 : World} {B : Nat} {t : TypeId} {size n : Nat} {v : Value} {xs : List Value} (h : W.ownsRow B t size v n xs) (hk : ∀ (g : Nat) (cs : Array Value), Blk W g t cs → Blk w6 g t cs) : w6.ownsRow B t size v n xs := by
  refine ⟨h.1, ?_⟩
  rcases h.2 with h2 | ⟨g, cap, cur, e1, e2, e3, e4⟩
  · exact .inl h2
  · exact .inr ⟨g, cap, cur, e1, e2, hk g _ e3, e4⟩
theorem BrO.below {W5 : World} {b ob : Nat} {u0 u1 v bv : Value} {E : List EvT} {i : Nat} {Q : List EvP} {X : List EvT} {bc : List Int} {W W' : World} (h : BrO W5 b ob u0 u1 v bv E i Q X bc W) (hb : Below W.heap.size W W') : BrO W5 b ob u0 u1 v bv E i Q X bc W' :=
  ⟨h.o.below hb, row_keep h.row (fun _ _ h => h.below hb), h.xl, row_keep h.brow (fun _ _ h => h.below hb), h.cp, h.src, h.dst, h.fst, h.kx.trans ((Kx.of_below hb).mono h.kx.size (fun _ _ h => h))⟩
/-- Where the next event begins. -/
theorem BrO.first {W5 : World} {b ob : Nat} {u0 u1 v bv : Value} {E : List EvT} {i : Nat} {Q : List EvP} {X : List EvT} {bc : List Int} {W w6 : World} {O : Obj} {bv' : Value} (h : BrO W5 b ob u0 u1 v bv E i Q X bc W)
    (hown : w6.ownsRow W5.heap.size 3 1 bv' (bc.length + 1) (intC bc ++ [.int .i64 (X.length : Nat)])) (hg : (W.alloc O).grownBy w6 bv.ownBlock) : BrO W5 b ob u0 u1 v bv' E i Q X (bc ++ [((X.length : Nat) : Int)]) w6 := by
  have hk : ∀ (g : Nat) (T : TypeId) (cs : Array Value), T ≠ 3 → Blk W g T cs → Blk w6 g T cs := fun g T cs hT hB => (hB.below (ba _ _)).grown hg (blk_apart hB h.brow hT)
  have hz := h.kx.size
  refine ⟨hk _ _ _ (by decide) h.o, row_keep h.row (fun g cs hB => hk g _ _ (by decide) hB), h.xl, ?_, h.cp, h.src, h.dst, fun j z hj hE hl => ?_, ?_⟩
  · rw [List.length_append, List.length_singleton, show intC (bc ++ [((X.length : Nat) : Int)]) = intC bc ++ [.int .i64 (X.length : Nat)] by simp [intC]]
    exact hown
  · rw [List.length_append, List.length_singleton] at hj
    rw [getD_app] at hl ⊢
    by_cases e : j < bc.length
    · rw [if_pos e] at hl ⊢
      exact h.fst j z e hE hl
    · rw [if_neg e, if_pos (by omega)] at hl
      simp at hl
  · exact (h.kx.trans ((Kx.of_below (x := fun k => k = ob) (ba W O)).mono hz (fun _ _ h => h))).grown hg (by simp; omega) (fun k hk => (h.brow.lt k hk).1) (fun k hk => by
      obtain ⟨cs, T, f, h3⟩ := row_cells h.brow k hk
      exact ⟨cs, T, f, ((ba W O).block k (Array.getElem?_eq_some_iff.1 h3).1).trans h3⟩)
/-- The events of one event more. -/
theorem BrO.events {W5 : World} {b ob : Nat} {u0 u1 v bv : Value} {E : List EvT} {i : Nat} {Q : List EvP} {X : List EvT} {bc : List Int} {W w6 : World} {v' : Value} (h : BrO W5 b ob u0 u1 v bv E i Q X (bc ++ [((X.length : Nat) : Int)]) W) {lx : List EvT} {lq : List EvP} {x : EvT} (hx : E[i]? = some x) (hD : DstE E) (hbl : bc.length = i) (hfb : ∀ j, j < bc.length → (bc.getD j 0).toNat < X.length)
    (hl : lx.length = lq.length) (hlp : 0 < lx.length) (hcp : CpE W5 b lx lq) (hs : ∀ (k : Nat) (z : EvT), lx[k]? = some z → (k = 0 ∧ z.sa = x.sa ∧ z.sn = x.sn ∧ z.sc = x.sc) ∨ (0 < k ∧ z.sn = 0))
    (hown : w6.ownsRow W5.heap.size 51 6 v' (Q.length + lx.length) (evC X ++ evC lx)) (hg : W.grownBy w6 v.ownBlock) (ho : ob < W5.heap.size) :
    Blk w6 ob 28 #[u0, u1, v] ∧ BrO W5 b ob u0 u1 v' bv E (i + 1) (Q ++ lq) (X ++ lx) (bc ++ [((X.length : Nat) : Int)]) (w6.setCell ⟨ob, 2, none⟩ v') := by
  have hk : ∀ (g : Nat) (T : TypeId) (cs : Array Value), T ≠ 51 → Blk W g T cs → Blk w6 g T cs := fun g T cs hT hB => hB.grown hg (blk_apart hB h.row hT)
  have q6 := hk _ _ _ (by decide) h.o
  have hz := h.kx.size
  refine ⟨q6, ?_, ?_, ?_, ?_, ?_, ?_, ?_, ?_, ?_⟩
  · have := q6.set_ 2 v'
    simpa using this
  · rw [List.length_append, ← hl, evC_append]
    exact ownsRow_heap hown (fun g2 hg2 => set_other _ _ _ _ _ (fun e => by have := (hown.lt g2 hg2).1; omega))
  · rw [List.length_append, List.length_append, h.xl, hl]
  · have hb6 := row_keep (w6 := w6) h.brow (fun g cs hB => hk g _ _ (by decide) hB)
    exact ownsRow_heap hb6 (fun g2 hg2 => set_other _ _ _ _ _ (fun e => by have := (hb6.lt g2 hg2).1; omega))
  · exact cpe_append h.cp hcp h.xl
  · intro k z hz
    by_cases hkl : k < X.length
    · rw [List.getElem?_append_left hkl] at hz
      rcases h.src k z hz with h1 | ⟨j, z', h1, h2⟩
      · exact .inl h1
      · exact .inr ⟨j, z', by omega, h2⟩
    · rw [List.getElem?_append_right (by omega)] at hz
      rcases hs _ z hz with ⟨_, h2, h3, _⟩ | ⟨_, h2⟩
      · exact .inr ⟨i, x, by omega, hx, h2.symm, h3.symm⟩
      · exact .inl h2
  · intro k1 k2 z1 z2 hlt h1 h2 n1 n2
    by_cases c2 : k2 < X.length
    · rw [List.getElem?_append_left (by omega)] at h1
      rw [List.getElem?_append_left c2] at h2
      exact h.dst k1 k2 z1 z2 hlt h1 h2 n1 n2
    · rw [List.getElem?_append_right (by omega)] at h2
      rcases hs _ z2 h2 with ⟨e0, e1, e2, _⟩ | ⟨_, e1⟩
      · by_cases c1 : k1 < X.length
        · rw [List.getElem?_append_left c1] at h1
          rcases h.src k1 z1 h1 with g1 | ⟨j, z', g1, g2, g3, g4⟩
          · omega
          · rw [e1, ← g3]
            exact hD j i z' x g1 g2 hx (by omega) (by omega)
        · omega
      · omega
  · intro j z hj hE hl2
    rw [List.length_append, List.length_singleton] at hj
    by_cases e : j < bc.length
    · rw [getD_app, if_pos e] at hl2 ⊢
      by_cases c : (bc.getD j 0).toNat < X.length
      · have := h.fst j z (by rw [List.length_append, List.length_singleton]; omega) hE (by rw [getD_app, if_pos e]; exact c)
        rw [getD_app, if_pos e] at this
        obtain ⟨x', a1, a2⟩ := this
        exact ⟨x', by rw [List.getElem?_append_left c]; exact a1, a2⟩
      · exfalso
        exact c (hfb j e)
    · have hji : j = i := by omega
      rw [getD_app, if_neg e, if_pos (by omega)] at hl2 ⊢
      rw [hji, hx] at hE
      injection hE with hE
      subst hE
      have h0 := List.getElem?_eq_getElem hlp
      rcases hs 0 _ h0 with ⟨_, e1, e2, e3⟩ | ⟨e0, _⟩
      · refine ⟨lx[0], ?_, e1, e2, e3⟩
        rw [Int.toNat_natCast, List.getElem?_append_right (Nat.le_refl _), show X.length - X.length = 0 by omega]
        exact h0
      · omega
  · have k1 := h.kx.grown hg hz (fun k hk => (h.row.lt k hk).1) (row_cells h.row)
    exact k1.setBlk (.inr rfl) q6 _ _

end Go.Proofs.YtdhjigaocamglaaDoor
