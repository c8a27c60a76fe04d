/- Pieces: what is regrouped (broken at bar lines, joined) stays valid. -/
import Derived.Test.YtdhjigaocamglaaDoorQdBk4
import Derived.Test.YtdhjigaocamglaaDoorQdTrnC
import Derived.Test.YtdhjigaocamglaaDoorQdJn2
import Derived.Test.YtdhjigaocamglaaDoorQdRefFew
import Derived.Test.YtdhjigaocamglaaDoorQdSameI2
namespace Go.Proofs.YtdhjigaocamglaaDoor
open Go Go.RowKit

theorem lgGo_iff (c : Int) : ∀ (R : List EvP) (h n : Nat), h ≤ 15 → (h + n ≤ lgGo c R h ↔ n ≤ R.length ∧ h + n ≤ 15 ∧ ∀ (j : Nat) (y : EvP), j < n → R[j]? = some y → restB y = false ∧ hsB y.L c = false)
  | [], h, n, hh => by
    unfold lgGo
    constructor
    · intro hn
      obtain rfl : n = 0 := by omega
      exact ⟨Nat.le_refl _, hh, fun j y hj => by omega⟩
    · rintro ⟨h1, _⟩
      simp at h1
      omega
  | y :: R, h, n, hh => by
    unfold lgGo
    by_cases hc : h = 15 ∨ restB y = true ∨ hsB y.L c = true
    · rw [if_pos hc]
      constructor
      · intro hn
        obtain rfl : n = 0 := by omega
        exact ⟨Nat.zero_le _, by omega, fun j y hj => by omega⟩
      · rintro ⟨h1, h2, h3⟩
        cases n with
        | zero => omega
        | succ n =>
          have h4 := h3 0 y (by omega) rfl
          rcases hc with hc | hc | hc
          · omega
          · rw [hc] at h4; cases h4.1
          · rw [hc] at h4; cases h4.2
    · rw [if_neg hc]
      have hne : h ≠ 15 ∧ restB y = false ∧ hsB y.L c = false := by
        refine ⟨fun e => hc (.inl e), ?_, ?_⟩
        · cases e : restB y with
          | false => rfl
          | true => exact absurd (.inr (.inl e)) hc
        · cases e : hsB y.L c with
          | false => rfl
          | true => exact absurd (.inr (.inr e)) hc
      cases n with
      | zero =>
        constructor
        · intro _
          exact ⟨Nat.zero_le _, by omega, fun j y hj => by omega⟩
        · intro _
          have := lgGo_le c R (h + 1) (by omega)
          omega
      | succ n =>
        have ih := lgGo_iff c R (h + 1) n (by omega)
        rw [show h + (n + 1) = h + 1 + n by omega, ih]
        constructor
        · rintro ⟨a, b, d⟩
          refine ⟨by simpa using a, b, fun j z hj hz => ?_⟩
          cases j with
          | zero =>
            obtain rfl : y = z := by simpa using hz
            exact hne.2
          | succ j => exact d j z (by omega) (by simpa using hz)
        · rintro ⟨a, b, d⟩
          exact ⟨by simpa using a, b, fun j z hj hz => d (j + 1) z (by omega) (by simpa using hz)⟩
theorem lgst_iff {P : List EvP} {k : Nat} (hk : k < P.length) (c : Int) (n : Nat) : n ≤ lgst P k c ↔ k + n < P.length ∧ n ≤ 15 ∧ ∀ (j : Nat) (y : EvP), k < j → j ≤ k + n → P[j]? = some y → restB y = false ∧ hsB y.L c = false := by
  have h := lgGo_iff c (P.drop (k + 1)) 0 n (by omega)
  rw [Nat.zero_add] at h
  rw [lgst_in hk, h, List.length_drop]
  constructor
  · rintro ⟨a, b, d⟩
    refine ⟨by omega, b, fun j y h1 h2 hy => d (j - (k + 1)) y (by omega) ?_⟩
    rw [List.getElem?_drop, show k + 1 + (j - (k + 1)) = j by omega]
    exact hy
  · rintro ⟨a, b, d⟩
    refine ⟨by omega, b, fun j y h1 hy => d (k + 1 + j) y (by omega) (by omega) ?_⟩
    rw [List.getElem?_drop] at hy
    exact hy
theorem hsB_mv (B : List Int) (i : Nat) (L : List St) (c : Int) : hsB (L.map (mvS B i)) c = hsB L c := by
  unfold hsB
  rw [List.any_map]
  rfl
theorem stErr_ok {C : List Cr} {P : List EvP} {k : Nat} {bf : Int} {s : St} (h : stErr C P k bf s = 0) :
    ¬ (s.c < 1 ∨ (C.length : Int) < s.c) ∧ ¬ (s.f < 0 ∨ (C.getD (s.c - 1).toNat z0).f < s.f) ∧ ¬ s.c ≤ bf ∧ ¬ (s.r < 0 ∨ 3 < s.r ∨ s.g < 0 ∨ 4 < s.g) ∧ ¬ (s.h < 0 ∨ (lgst P k s.c : Int) < s.h ∨ (0 < s.h ∧ s.f = 0)) := by
  unfold stErr at h
  split at h
  · simp at h
  · split at h
    · simp at h
    · split at h
      · simp at h
      · split at h
        · simp at h
        · split at h
          · simp at h
          · exact ⟨by assumption, by assumption, by assumption, by assumption, by assumption⟩
theorem stErr_of {C : List Cr} {P : List EvP} {k : Nat} {bf : Int} {s : St} (h1 : ¬ (s.c < 1 ∨ (C.length : Int) < s.c)) (h2 : ¬ (s.f < 0 ∨ (C.getD (s.c - 1).toNat z0).f < s.f)) (h3 : ¬ s.c ≤ bf) (h4 : ¬ (s.r < 0 ∨ 3 < s.r ∨ s.g < 0 ∨ 4 < s.g)) (h5 : ¬ (s.h < 0 ∨ (lgst P k s.c : Int) < s.h ∨ (0 < s.h ∧ s.f = 0))) : stErr C P k bf s = 0 := by
  unfold stErr
  rw [if_neg h1, if_neg h2, if_neg h3, if_neg h4, if_neg h5]
theorem getD_get {α : Type} {l : List α} {i : Nat} {x d : α} (h : l[i]? = some x) : l.getD i d = x := by
  rw [List.getD_eq_getElem?_getD, h]
  rfl
theorem okB_wr {v : Int} {d t : Bool} (h : okB v d t = true) : wrB v d t = true := by
  have h1 : v ≠ 0 := by
    intro e
    subst e
    simp [okB] at h
  simp [wrB, h1]
theorem okB_sgn {j : Nat} {y : EvP} (h : okB y.v y.d y.t = true) : sgnB j y = false := by
  unfold sgnB
  rw [h, okB_wr h]
  simp
/-- Whose event an event of the new list is. -/
structure Ownr (P : List EvP) (B : List Int) (j : Nat) (y : EvP) (i : Nat) (x : EvP) : Prop where
  px : P[i]? = some x
  rs : restB y = restB x
  le : B.getD i 0 ≤ j
  up : ∀ i', i' < P.length → (j : Int) ≤ B.getD i' 0 → i ≤ i'
  lo : ∀ i', i' < P.length → B.getD i' 0 < j → i' ≤ i
  st : y.L = [] ∨ ((j : Int) = B.getD i 0 ∧ y.L = x.L.map (mvS B i))
  ti : y.tie = true → y.L = [] ∧ 0 < j
theorem regroup {C : List Cr} {S : List Int} {P Q : List EvP} {B : List Int} (h0 : pcErr C S P = 0) (hl : Q.length ≤ 400) (hmono : ∀ i k, i ≤ k → k < P.length → B.getD i 0 ≤ B.getD k 0) (hle : ∀ i, i < P.length → B.getD i 0 < Q.length)
    (hsg : ∀ y ∈ Q, okB y.v y.d y.t = true) (how : ∀ (j : Nat) (y : EvP), Q[j]? = some y → ∃ i x, Ownr P B j y i x) (h15 : ∀ y ∈ Q, ∀ s ∈ y.L, s.h ≤ 15) : pcErr C S Q = 0 := by
  obtain ⟨k1, k2, k3⟩ := pcErr_ok h0
  unfold pcErr
  rw [if_neg (by simp [k1]), if_neg (by omega)]
  refine evsErr_of Q 0 (fun j y hy => ?_)
  rw [Nat.zero_add]
  obtain ⟨i, x, o⟩ := how j y hy
  have hjl : j < Q.length := (List.getElem?_eq_some_iff.1 hy).1
  have hil : i < P.length := (List.getElem?_eq_some_iff.1 o.px).1
  have ht : tieB j y = false := by
    unfold tieB
    cases hyt : y.tie with
    | false => rfl
    | true =>
      obtain ⟨e1, e2⟩ := o.ti hyt
      simp [e1]
      omega
  unfold evErr
  rw [if_neg (by simp [okB_sgn (hsg y (List.mem_of_getElem? hy))]), if_neg (by simp [ht])]
  rcases o.st with e | ⟨e1, e2⟩
  · rw [e]; rfl
  · have hs := (k3 i x o.px).2.2
    have hm : ∀ s ∈ x.L, s ∈ x.L := fun s h => h
    have h15' : ∀ s ∈ x.L, (mvS B i s).h ≤ 15 := fun s hs => h15 y (List.mem_of_getElem? hy) _ (by rw [e2]; exact List.mem_map_of_mem hs)
    rw [e2]
    have key : ∀ (M : List St) (bf : Int), (∀ s ∈ M, s ∈ x.L) → stsErr C P i bf M = 0 → stsErr C Q j bf (M.map (mvS B i)) = 0 := by
      intro M
      induction M with
      | nil => intro _ _ _; rfl
      | cons s M ih =>
        intro bf hM hz
        unfold stsErr at hz
        have ez : stErr C P i bf s = 0 := by
          by_cases h1 : stErr C P i bf s = 0
          · exact h1
          · rw [if_neg h1] at hz
            exact absurd hz h1
        rw [if_pos ez] at hz
        obtain ⟨a1, a2, a3, a4, a5⟩ := stErr_ok ez
        have hsx := hM s (List.mem_cons_self ..)
        have hlg : s.h.toNat ≤ lgst P i s.c := by omega
        obtain ⟨b1, b2, b3⟩ := (lgst_iff hil s.c _).1 hlg
        have hm1 := hmono i (i + s.h.toNat) (by omega) b1
        have hl1 := hle _ b1
        have hh15 := h15' s hsx
        have hh : (mvS B i s).h = B.getD (i + s.h.toNat) 0 - B.getD i 0 := rfl
        have hq : (mvS B i s).h.toNat ≤ lgst Q j s.c := by
          refine (lgst_iff hjl s.c _).2 ⟨by omega, by omega, fun j' z g1 g2 hz' => ?_⟩
          obtain ⟨i', x', o'⟩ := how j' z hz'
          have hi'l : i' < P.length := (List.getElem?_eq_some_iff.1 o'.px).1
          have c1 : i' ≤ i + s.h.toNat := o'.up _ b1 (by omega)
          have c2 : i ≤ i' := o'.lo i hil (by omega)
          by_cases hii : i' = i
          · subst hii
            have hzL : z.L = [] := by
              rcases o'.st with e | ⟨e, _⟩
              · exact e
              · omega
            have hxx : x' = x := by
              have := o'.px
              rw [o.px] at this
              injection this with this
              exact this.symm
            refine ⟨?_, by rw [hzL]; rfl⟩
            rw [o'.rs, hxx]
            unfold restB
            have : x.L.length ≠ 0 := by
              intro e
              rw [List.length_eq_zero_iff] at e
              rw [e] at hsx
              cases hsx
            simp [this]
          · obtain ⟨d1, d2⟩ := b3 i' x' (by omega) c1 o'.px
            refine ⟨o'.rs.trans d1, ?_⟩
            rcases o'.st with e | ⟨_, e⟩
            · rw [e]; rfl
            · rw [e, hsB_mv]; exact d2
        have hnew : stErr C Q j bf (mvS B i s) = 0 := by
          refine stErr_of a1 a2 a3 a4 ?_
          rintro (h | h | ⟨h1, h2⟩)
          · rw [hh] at h; omega
          · have : (mvS B i s).c = s.c := rfl
            rw [this] at h
            omega
          · have hz0 : s.h = 0 := by
              have : (mvS B i s).f = s.f := rfl
              omega
            rw [hh, hz0] at h1
            simp at h1
        show (if stErr C Q j bf (mvS B i s) = 0 then stsErr C Q j (mvS B i s).c (M.map (mvS B i)) else stErr C Q j bf (mvS B i s)) = 0
        rw [if_pos hnew]
        exact ih s.c (fun z hz' => hM z (List.mem_cons_of_mem _ hz')) hz
    exact key x.L 0 (fun s h => h) hs
/-- What moving the stops makes of an event without stops. -/
theorem mvL_at (B : List Int) (P : List EvP) (Q : List EvP) (j : Nat) (y : EvP) (hy : Q[j]? = some y) : ∀ k, (∃ i, i < k ∧ (B.getD i 0).toNat = j ∧ (P.getD i z6).L ≠ [] ∧ (mvL B P k Q)[j]? = some { y with L := (P.getD i z6).L.map (mvS B i) }) ∨
    ((∀ i, i < k → (B.getD i 0).toNat = j → (P.getD i z6).L = []) ∧ (mvL B P k Q)[j]? = some y)
  | 0 => .inr ⟨fun i hi => by omega, hy⟩
  | k + 1 => by
    have ih := mvL_at B P Q j y hy k
    unfold mvL
    by_cases hk : (P.getD k z6).L = []
    · rw [if_pos hk]
      rcases ih with ⟨i, a, b, c, d⟩ | ⟨a, b⟩
      · exact .inl ⟨i, by omega, b, c, d⟩
      · refine .inr ⟨fun i hi he => ?_, b⟩
        by_cases e : i = k
        · rw [e]; exact hk
        · exact a i (by omega) he
    · rw [if_neg hk]
      by_cases hj : (B.getD k 0).toNat = j
      · refine .inl ⟨k, by omega, hj, hk, ?_⟩
        rw [hj]
        have hlt : j < (mvL B P k Q).length := by rw [mvL_len]; exact (List.getElem?_eq_some_iff.1 hy).1
        rw [List.getElem?_set_self hlt]
        rcases ih with ⟨i, a, b, c, d⟩ | ⟨a, b⟩
        · rw [getD_get d]
        · rw [getD_get b]
      · rw [List.getElem?_set_ne hj]
        rcases ih with ⟨i, a, b, c, d⟩ | ⟨a, b⟩
        · exact .inl ⟨i, by omega, b, c, d⟩
        · refine .inr ⟨fun i hi he => ?_, b⟩
          by_cases e : i = k
          · subst e; exact absurd he hj
          · exact a i (by omega) he

/-! ### Break -/
/-- What Break's lists are, so far. -/
structure BrI (Y : List TmP) (a : BrS) : Prop where
  bl : a.bc.length = Y.length
  bd : ∀ i, i < Y.length → 0 ≤ a.bc.getD i 0 ∧ a.bc.getD i 0 < a.ev.length
  inc : ∀ i k, i < k → k < Y.length → a.bc.getD i 0 < a.bc.getD k 0
  ev : ∀ (j : Nat) (y : EvP), a.ev[j]? = some y → y.L = [] ∧ okB y.v y.d y.t = true ∧ ∃ i p, Y[i]? = some p ∧ a.bc.getD i 0 ≤ j ∧ (∀ i', i < i' → i' < Y.length → (j : Int) < a.bc.getD i' 0) ∧ y.tie = if (j : Int) = a.bc.getD i 0 then p.y.tie else !restB p.y
theorem brS_get (tie : Bool) (bar : Int) : ∀ (l : List Sg) (fm : Int) (j : Nat) (y : EvP), (brS tie bar fm l)[j]? = some y → y.tie = tie ∧ ∃ s ∈ l, y.v = s.v ∧ y.d = s.d ∧ y.t = s.t
  | [], _, j, y, h => by simp [brS] at h
  | s :: r, fm, 0, y, h => by
    simp [brS] at h
    subst h
    exact ⟨rfl, s, List.mem_cons_self .., rfl, rfl, rfl⟩
  | s :: r, fm, j + 1, y, h => by
    obtain ⟨h1, z, hz, h2⟩ := brS_get tie bar r _ j y (by simpa [brS] using h)
    exact ⟨h1, z, List.mem_cons_of_mem _ hz, h2⟩
theorem tie1_get {b : Bool} {l : List EvP} {j : Nat} {y : EvP} (h : (tie1 b l)[j]? = some y) : ∃ z, l[j]? = some z ∧ y = if j = 0 then { z with tie := b } else z := by
  cases l with
  | nil => simp [tie1] at h
  | cons x r =>
    cases j with
    | zero =>
      simp [tie1] at h
      exact ⟨x, rfl, h.symm⟩
    | succ j => exact ⟨y, by simpa [tie1] using h, rfl⟩
theorem brF_get {bar : Int} {p : TmP} {l : List EvP} (hb : 1 ≤ bar) (hf : p.fm < p.to) (h : brF bar p = some l) (j : Nat) (y : EvP) (hy : l[j]? = some y) : y.L = [] ∧ okB y.v y.d y.t = true ∧ y.tie = if j = 0 then p.y.tie else !restB p.y := by
  have hL := (brF_len hb hf h).2.2 y (List.mem_of_getElem? hy)
  unfold brF at h
  obtain ⟨S, hS, rfl⟩ := Option.map_eq_some_iff.1 h
  obtain ⟨h1, h2⟩ := sgAll_sum _ bar p.fm p.to S hb rfl (by omega) hS
  obtain ⟨z, hz, e⟩ := tie1_get hy
  obtain ⟨g1, s, hs, g2, g3, g4⟩ := brS_get _ _ _ _ _ _ hz
  refine ⟨hL, ?_, ?_⟩
  · have := (h2 s hs).1
    rw [e]
    split
    · show okB z.v z.d z.t = true
      rw [g2, g3, g4]; exact this
    · rw [g2, g3, g4]; exact this
  · rw [e]
    split
    · rfl
    · exact g1
theorem brI_nil : BrI [] ⟨[], []⟩ := ⟨rfl, fun i h => by simp at h, fun i k _ h => by simp at h, fun j y h => by simp at h⟩
theorem brI_step {bar : Int} {Y : List TmP} {a : BrS} {p : TmP} {l : List EvP} (hb : 1 ≤ bar) (hf : p.fm < p.to) (h : BrI Y a) (hl : brF bar p = some l) : BrI (Y ++ [p]) ⟨a.ev ++ l, a.bc ++ [(a.ev.length : Int)]⟩ := by
  obtain ⟨l1, l2, l3⟩ := brF_len hb hf hl
  have hold : ∀ i, i < Y.length → (a.bc ++ [(a.ev.length : Int)]).getD i 0 = a.bc.getD i 0 := fun i hi => by rw [getD_app, if_pos (by rw [h.bl]; exact hi)]
  have hnew : (a.bc ++ [(a.ev.length : Int)]).getD Y.length 0 = a.ev.length := by rw [getD_app, h.bl, if_neg (by omega), if_pos rfl]
  refine ⟨by simp [h.bl], fun i hi => ?_, fun i k hik hk => ?_, fun j y hy => ?_⟩
  · rw [List.length_append, List.length_singleton] at hi
    show 0 ≤ (a.bc ++ [(a.ev.length : Int)]).getD i 0 ∧ (a.bc ++ [(a.ev.length : Int)]).getD i 0 < ((a.ev ++ l).length : Int)
    rw [List.length_append]
    by_cases e : i = Y.length
    · rw [e, hnew]; push_cast; omega
    · have := h.bd i (by omega)
      rw [hold i (by omega)]; push_cast; omega
  · rw [List.length_append, List.length_singleton] at hk
    show (a.bc ++ [(a.ev.length : Int)]).getD i 0 < (a.bc ++ [(a.ev.length : Int)]).getD k 0
    rw [hold i (by omega)]
    by_cases e : k = Y.length
    · rw [e, hnew]; exact (h.bd i (by omega)).2
    · rw [hold k (by omega)]; exact h.inc i k hik (by omega)
  · show y.L = [] ∧ okB y.v y.d y.t = true ∧ ∃ i p', (Y ++ [p])[i]? = some p' ∧ (a.bc ++ [(a.ev.length : Int)]).getD i 0 ≤ j ∧ (∀ i', i < i' → i' < (Y ++ [p]).length → (j : Int) < (a.bc ++ [(a.ev.length : Int)]).getD i' 0) ∧ y.tie = if (j : Int) = (a.bc ++ [(a.ev.length : Int)]).getD i 0 then p'.y.tie else !restB p'.y
    rw [List.length_append, List.length_singleton]
    by_cases hj : j < a.ev.length
    · have hy1 : a.ev[j]? = some y := by
        have : (a.ev ++ l)[j]? = some y := hy
        rwa [List.getElem?_append_left hj] at this
      obtain ⟨e1, e2, i, p', e3, e4, e5, e6⟩ := h.ev j y hy1
      have hi : i < Y.length := (List.getElem?_eq_some_iff.1 e3).1
      refine ⟨e1, e2, i, p', by rw [List.getElem?_append_left hi]; exact e3, by rw [hold i hi]; exact e4, fun i' g1 g2 => ?_, by rw [hold i hi]; exact e6⟩
      by_cases e : i' = Y.length
      · rw [e, hnew]; omega
      · rw [hold i' (by omega)]; exact e5 i' g1 (by omega)
    · have hy1 : l[j - a.ev.length]? = some y := by
        have : (a.ev ++ l)[j]? = some y := hy
        rwa [List.getElem?_append_right (by omega)] at this
      obtain ⟨e1, e2, e3⟩ := brF_get hb hf hl _ y hy1
      refine ⟨e1, e2, Y.length, p, by simp, by rw [hnew]; omega, fun i' g1 g2 => by omega, ?_⟩
      rw [hnew, e3]
      by_cases e : j = a.ev.length
      · rw [if_pos (by omega), if_pos (by omega)]
      · rw [if_neg (by omega), if_neg (by omega)]
theorem brI_go {bar : Int} (hb : 1 ≤ bar) : ∀ (X : List TmP) (Y : List TmP) (a a' : BrS), (∀ p ∈ X, p.fm < p.to) → BrI Y a → brGo bar X a = some a' → BrI (Y ++ X) a'
  | [], Y, a, a', _, h, hg => by
    injection hg with hg
    subst hg
    rwa [List.append_nil]
  | p :: X, Y, a, a', hX, h, hg => by
    simp only [brGo] at hg
    cases hl : brF bar p with
    | none => rw [hl] at hg; cases hg
    | some l =>
      rw [hl] at hg
      have := brI_go hb X (Y ++ [p]) _ a' (fun q hq => hX q (List.mem_cons_of_mem _ hq)) (brI_step hb (hX p (List.mem_cons_self ..)) h hl) hg
      rwa [List.append_assoc] at this
theorem tm_pos {C : List Cr} {S : List Int} {P : List EvP} (h0 : pcErr C S P = 0) : ∀ p ∈ tpL P, p.fm < p.to ∧ okB p.v p.d p.t = true := fun p hp => by
  have hok := tm_okB P 0 0 false false 0 (sgr_of h0) (.inr (fun y hy => by
    cases P with
    | nil => cases hy
    | cons z r =>
      obtain rfl : z = y := by simpa using hy
      have := sgr_head h0
      simp [wrB, this])) p hp
  refine ⟨?_, hok⟩
  have e := tmPL_tk P 0 0 false false 0 p hp
  obtain ⟨i, hi, hq⟩ := sgn_idx hok
  have h4 := tks_four hi
  have e1 : p.v = (soQ i).v := by rw [hq]
  have e2 : p.d = (soQ i).d := by rw [hq]
  have e3 : p.t = (soQ i).t := by rw [hq]
  rw [e1, e2, e3] at e
  have : 4 ≤ tkV (soQ i).v (soQ i).d (soQ i).t := h4.1
  omega
theorem tmPL_yv : ∀ (P : List EvP) (n : Nat) (v : Int) (d t : Bool) (fm : Int) (i : Nat) (p : TmP), (tmPL P n v d t fm)[i]? = some p → P[i]? = some p.y := fun P n v d t fm i p h => (tmPL_bd P n v d t fm i p h).2.1
theorem break_own {C : List Cr} {S : List Int} {P : List EvP} {bar : Int} {a : BrS} (h0 : pcErr C S P = 0) (hb : 1 ≤ bar) (ha : brAll bar P = some a) : BrI (tpL P) a := by
  have := brI_go hb (tpL P) [] ⟨[], []⟩ a (fun p hp => (tm_pos h0 p hp).1) brI_nil ha
  simpa using this
theorem break_valid {C : List Cr} {S : List Int} {P : List EvP} {bar : Int} (h0 : pcErr C S P = 0) (he : brErr 0 bar P = 0) : pcErr C S (brRes bar P) = 0 := by
  unfold brErr at he
  rw [if_neg (by simp)] at he
  by_cases hb : bar < 1 ∨ 4608 < bar
  · rw [if_pos hb] at he; cases he
  rw [if_neg hb] at he
  unfold brRes
  cases ha : brAll bar P with
  | none => rw [ha] at he; cases he
  | some a =>
    rw [ha] at he
    dsimp only at he ⊢
    by_cases h400 : 400 < a.ev.length
    · rw [if_pos h400] at he; cases he
    rw [if_neg h400] at he
    by_cases hany : (mvL a.bc P P.length a.ev).any htE = true
    · rw [if_pos hany] at he; cases he
    have hI := break_own h0 (by omega) ha
    have hlen : (tpL P).length = P.length := tmPL_len P 0 0 false false 0
    have hinc : ∀ i k, i < k → k < P.length → a.bc.getD i 0 < a.bc.getD k 0 := fun i k h1 h2 => hI.inc i k h1 (by rw [hlen]; exact h2)
    have hbd : ∀ i, i < P.length → 0 ≤ a.bc.getD i 0 ∧ a.bc.getD i 0 < a.ev.length := fun i h => hI.bd i (by rw [hlen]; exact h)
    have hget : ∀ (j : Nat) (y' : EvP), (mvL a.bc P P.length a.ev)[j]? = some y' → ∃ y, a.ev[j]? = some y := fun j y' h => by
      have : j < a.ev.length := by
        have := (List.getElem?_eq_some_iff.1 h).1
        rwa [mvL_len] at this
      exact ⟨_, List.getElem?_eq_getElem this⟩
    have hany' : ∀ y ∈ mvL a.bc P P.length a.ev, ∀ s ∈ y.L, s.h ≤ 15 := fun y hy s hs => by
      rcases Int.lt_or_le 15 s.h with h | h
      · refine absurd (List.any_eq_true.2 ⟨y, hy, ?_⟩) hany
        exact List.any_eq_true.2 ⟨s, hs, by simp [htS, h]⟩
      · exact h
    refine regroup h0 (by rw [mvL_len]; omega) (fun i k h1 h2 => ?_) (fun i hi => by rw [mvL_len]; exact (hbd i hi).2) (fun y' hy' => ?_) (fun j y' hy' => ?_) hany'
    · by_cases e : i = k
      · rw [e]; omega
      · have := hinc i k (by omega) h2; omega
    · obtain ⟨j, hj, rfl⟩ := List.getElem_of_mem hy'
      have hj' := List.getElem?_eq_getElem hj
      obtain ⟨y, hy⟩ := hget j _ hj'
      have hok := (hI.ev j y hy).2.1
      rcases mvL_at a.bc P a.ev j y hy P.length with ⟨_, _, _, _, e⟩ | ⟨_, e⟩
      · rw [hj'] at e
        injection e with e
        rw [e]; exact hok
      · rw [hj'] at e
        injection e with e
        rw [e]; exact hok
    · obtain ⟨y, hy⟩ := hget j y' hy'
      obtain ⟨hL, hok, i, p, e3, e4, e5, e6⟩ := hI.ev j y hy
      have hx := tmPL_yv P 0 0 false false 0 i p e3
      have hil : i < P.length := (List.getElem?_eq_some_iff.1 hx).1
      have hxD : P.getD i z6 = p.y := getD_get hx
      have hup : ∀ i', i' < P.length → (j : Int) ≤ a.bc.getD i' 0 → i ≤ i' := fun i' h1 h2 => by
        rcases Nat.lt_or_ge i' i with h | h
        · have := hinc i' i h hil; omega
        · exact h
      have hlo : ∀ i', i' < P.length → a.bc.getD i' 0 < j → i' ≤ i := fun i' h1 h2 => by
        rcases Nat.lt_or_ge i i' with h | h
        · have := e5 i' h (by rw [hlen]; exact h1); omega
        · exact h
      have htie := ((pcErr_ok h0).2.2 i p.y hx).2.1
      have hself : ∀ i2, i2 < P.length → (a.bc.getD i2 0).toNat = j → i2 = i := fun i2 h1 h2 => by
        have b2 := hbd i2 h1
        have u1 := hup i2 h1 (by omega)
        rcases Nat.lt_or_ge i i2 with h | h
        · have := e5 i2 h (by rw [hlen]; exact h1); omega
        · omega
      refine ⟨i, p.y, ?_⟩
      rcases mvL_at a.bc P a.ev j y hy P.length with ⟨i2, g1, g2, g3, e⟩ | ⟨g1, e⟩
      · obtain rfl := hself i2 g1 g2
        rw [hy'] at e
        injection e with e
        have hji : (j : Int) = a.bc.getD i2 0 := by have := hbd i2 g1; omega
        rw [hxD] at g3 e
        have hne : p.y.L.length ≠ 0 := fun h => g3 (List.length_eq_zero_iff.1 h)
        refine ⟨hx, ?_, e4, hup, hlo, .inr ⟨hji, by rw [e]⟩, fun ht => ?_⟩
        · rw [e]; unfold restB; simp [hne]
        · rw [e] at ht
          dsimp only at ht
          rw [e6, if_pos hji] at ht
          unfold tieB at htie
          rw [ht] at htie
          simp [hne] at htie
      · rw [hy'] at e
        injection e with e
        subst e
        by_cases hji : (j : Int) = a.bc.getD i 0
        · have hxL : p.y.L = [] := by rw [← hxD]; exact g1 i hil (by omega)
          rw [if_pos hji] at e6
          refine ⟨hx, by unfold restB; rw [hL, hxL, e6], e4, hup, hlo, .inl hL, fun ht => ⟨hL, ?_⟩⟩
          rw [e6] at ht
          unfold tieB at htie
          rw [ht] at htie
          simp [hxL] at htie
          have := hinc 0 i (by omega) hil
          have := hbd 0 (by omega)
          omega
        · rw [if_neg hji] at e6
          refine ⟨hx, by unfold restB; rw [hL, e6]; unfold restB; simp, e4, hup, hlo, .inl hL, fun ht => ⟨hL, ?_⟩⟩
          have := hbd i hil
          omega

/-! ### Join -/
structure JnI2 (Y : List TmP) (a : JnS) : Prop where
  bl : a.bc.length = Y.length
  el : a.ev.length ≤ Y.length
  bd : ∀ i, i < Y.length → 0 ≤ a.bc.getD i 0 ∧ a.bc.getD i 0 < a.ev.length
  mono : ∀ i k, i ≤ k → k < Y.length → a.bc.getD i 0 ≤ a.bc.getD k 0
  lip : ∀ i h, i + h < Y.length → a.bc.getD (i + h) 0 ≤ a.bc.getD i 0 + h
  last : 0 < Y.length → a.bc.getD (Y.length - 1) 0 = (a.ev.length : Int) - 1
  ev : ∀ (j : Nat) (y : EvP), a.ev[j]? = some y → y.L = [] ∧ okB y.v y.d y.t = true ∧ ∃ i p, Y[i]? = some p ∧ a.bc.getD i 0 = j ∧ (∀ i', i' < i → a.bc.getD i' 0 < j) ∧ (∀ i' p', i < i' → Y[i']? = some p' → a.bc.getD i' 0 = j → p'.y.tie = true) ∧ y.tie = p.y.tie
theorem soOf_ok {x : Int} {s : Sg} (h : soOf x = some s) : okB s.v s.d s.t = true := by
  unfold soOf at h
  obtain ⟨k, hk, rfl⟩ := Option.map_eq_some_iff.1 h
  exact soQ_ok (List.mem_range.1 (List.mem_of_find?_eq_some hk))
theorem jnI2_nil : JnI2 [] ⟨[], [], 0⟩ := ⟨rfl, Nat.le_refl _, fun i h => by simp at h, fun i k _ h => by simp at h, fun i k h => by simp at h, fun h => by simp at h, fun j y h => by simp at h⟩
theorem jnI2_new {Y : List TmP} {a : JnS} {p : TmP} (h : JnI2 Y a) (hp : okB p.v p.d p.t = true) : JnI2 (Y ++ [p]) (jnNew a p) := by
  have hold : ∀ i, i < Y.length → (a.bc ++ [(a.ev.length : Int)]).getD i 0 = a.bc.getD i 0 := fun i hi => by rw [getD_app, if_pos (by rw [h.bl]; exact hi)]
  have hnew : (a.bc ++ [(a.ev.length : Int)]).getD Y.length 0 = a.ev.length := by rw [getD_app, h.bl, if_neg (by omega), if_pos rfl]
  have hel : (jnNew a p).ev.length = a.ev.length + 1 := by simp [jnNew]
  have hle := h.el
  refine ⟨by simp [jnNew, h.bl], by rw [hel]; simp; exact hle, fun i hi => ?_, fun i k hik hk => ?_, fun i k hk => ?_, fun _ => ?_, fun j y hy => ?_⟩
  · rw [List.length_append, List.length_singleton] at hi
    rw [hel]
    show 0 ≤ (a.bc ++ [(a.ev.length : Int)]).getD i 0 ∧ (a.bc ++ [(a.ev.length : Int)]).getD i 0 < _
    by_cases e : i = Y.length
    · rw [e, hnew]; push_cast; omega
    · have := h.bd i (by omega)
      rw [hold i (by omega)]; push_cast; omega
  · rw [List.length_append, List.length_singleton] at hk
    show (a.bc ++ [(a.ev.length : Int)]).getD i 0 ≤ (a.bc ++ [(a.ev.length : Int)]).getD k 0
    by_cases e : k = Y.length
    · by_cases e2 : i = Y.length
      · rw [e, e2]; omega
      · have := h.bd i (by omega)
        rw [e, hnew, hold i (by omega)]; omega
    · rw [hold k (by omega), hold i (by omega)]; exact h.mono i k hik (by omega)
  · rw [List.length_append, List.length_singleton] at hk
    show (a.bc ++ [(a.ev.length : Int)]).getD (i + k) 0 ≤ (a.bc ++ [(a.ev.length : Int)]).getD i 0 + k
    by_cases e : i + k = Y.length
    · by_cases e2 : k = 0
      · rw [e2]; simp
      · have h1 := h.lip i (k - 1) (by omega)
        have h2 := h.last (by omega)
        rw [show i + (k - 1) = Y.length - 1 by omega, h2] at h1
        rw [e, hnew, hold i (by omega)]; omega
    · rw [hold _ (by omega), hold i (by omega)]; exact h.lip i k (by omega)
  · show (a.bc ++ [(a.ev.length : Int)]).getD _ 0 = _
    rw [hel, List.length_append, List.length_singleton, show Y.length + 1 - 1 = Y.length by omega, hnew]; push_cast; omega
  · have hy' : (a.ev ++ [(⟨p.y.bar, p.v, p.d, p.t, p.y.tie, []⟩ : EvP)])[j]? = some y := hy
    show y.L = [] ∧ okB y.v y.d y.t = true ∧ ∃ i p', (Y ++ [p])[i]? = some p' ∧ (a.bc ++ [(a.ev.length : Int)]).getD i 0 = j ∧ (∀ i', i' < i → (a.bc ++ [(a.ev.length : Int)]).getD i' 0 < j) ∧ (∀ i' p'', i < i' → (Y ++ [p])[i']? = some p'' → (a.bc ++ [(a.ev.length : Int)]).getD i' 0 = j → p''.y.tie = true) ∧ y.tie = p'.y.tie
    rcases get_app _ _ _ _ hy' with ⟨hj, hy1⟩ | ⟨hj, rfl⟩
    · obtain ⟨e1, e2, i, p', e3, e4, e5, e6, e7⟩ := h.ev j y hy1
      have hi : i < Y.length := (List.getElem?_eq_some_iff.1 e3).1
      refine ⟨e1, e2, i, p', by rw [List.getElem?_append_left hi]; exact e3, by rw [hold i hi]; exact e4, fun i' g => by rw [hold i' (by omega)]; exact e5 i' g, fun i' p'' g1 g2 g3 => ?_, e7⟩
      rcases get_app _ _ _ _ g2 with ⟨g4, g5⟩ | ⟨g4, _⟩
      · rw [hold i' g4] at g3; exact e6 i' p'' g1 g5 g3
      · rw [g4, hnew] at g3; omega
    · refine ⟨rfl, hp, Y.length, p, by simp, by rw [hnew]; omega, fun i' g => ?_, fun i' p'' g1 g2 _ => ?_, rfl⟩
      · rw [hold i' g]
        have := h.bd i' g
        omega
      · have := (List.getElem?_eq_some_iff.1 g2).1
        rw [List.length_append, List.length_singleton] at this
        omega
theorem jnI2_mrg {Y : List TmP} {a : JnS} {p : TmP} {s : Sg} {c : Int} (h : JnI2 Y a) (hY : 0 < Y.length) (hs : okB s.v s.d s.t = true) (ht : p.y.tie = true) : JnI2 (Y ++ [p]) ⟨setLast a.ev s, a.bc ++ [(a.ev.length : Int) - 1], c⟩ := by
  have hold : ∀ i, i < Y.length → (a.bc ++ [(a.ev.length : Int) - 1]).getD i 0 = a.bc.getD i 0 := fun i hi => by rw [getD_app, if_pos (by rw [h.bl]; exact hi)]
  have hnew : (a.bc ++ [(a.ev.length : Int) - 1]).getD Y.length 0 = (a.ev.length : Int) - 1 := by rw [getD_app, h.bl, if_neg (by omega), if_pos rfl]
  have hel : (setLast a.ev s).length = a.ev.length := by simp [setLast]
  have hle := h.el
  have hla := h.last hY
  have hb0 := h.bd 0 hY
  refine ⟨by simp [h.bl], by show (setLast a.ev s).length ≤ _; rw [hel, List.length_append]; omega, fun i hi => ?_, fun i k hik hk => ?_, fun i k hk => ?_, fun _ => ?_, fun j y hy => ?_⟩
  · rw [List.length_append, List.length_singleton] at hi
    show 0 ≤ (a.bc ++ [(a.ev.length : Int) - 1]).getD i 0 ∧ (a.bc ++ [(a.ev.length : Int) - 1]).getD i 0 < ((setLast a.ev s).length : Int)
    rw [hel]
    by_cases e : i = Y.length
    · rw [e, hnew]; omega
    · have := h.bd i (by omega)
      rw [hold i (by omega)]; omega
  · rw [List.length_append, List.length_singleton] at hk
    show (a.bc ++ [(a.ev.length : Int) - 1]).getD i 0 ≤ (a.bc ++ [(a.ev.length : Int) - 1]).getD k 0
    by_cases e : k = Y.length
    · by_cases e2 : i = Y.length
      · rw [e, e2]; omega
      · have := h.bd i (by omega)
        rw [e, hnew, hold i (by omega)]; omega
    · rw [hold k (by omega), hold i (by omega)]; exact h.mono i k hik (by omega)
  · rw [List.length_append, List.length_singleton] at hk
    show (a.bc ++ [(a.ev.length : Int) - 1]).getD (i + k) 0 ≤ (a.bc ++ [(a.ev.length : Int) - 1]).getD i 0 + k
    by_cases e : i + k = Y.length
    · by_cases e2 : k = 0
      · rw [e2]; simp
      · have h1 := h.lip i (k - 1) (by omega)
        rw [show i + (k - 1) = Y.length - 1 by omega, hla] at h1
        rw [e, hnew, hold i (by omega)]; omega
    · rw [hold _ (by omega), hold i (by omega)]; exact h.lip i k (by omega)
  · show (a.bc ++ [(a.ev.length : Int) - 1]).getD _ 0 = ((setLast a.ev s).length : Int) - 1
    rw [hel, List.length_append, List.length_singleton, show Y.length + 1 - 1 = Y.length by omega, hnew]
  · have hy' : (setLast a.ev s)[j]? = some y := hy
    show y.L = [] ∧ okB y.v y.d y.t = true ∧ ∃ i p', (Y ++ [p])[i]? = some p' ∧ (a.bc ++ [(a.ev.length : Int) - 1]).getD i 0 = j ∧ (∀ i', i' < i → (a.bc ++ [(a.ev.length : Int) - 1]).getD i' 0 < j) ∧ (∀ i' p'', i < i' → (Y ++ [p])[i']? = some p'' → (a.bc ++ [(a.ev.length : Int) - 1]).getD i' 0 = j → p''.y.tie = true) ∧ y.tie = p'.y.tie
    have hjl : j < a.ev.length := by have := (List.getElem?_eq_some_iff.1 hy').1; rwa [hel] at this
    obtain ⟨e1, e2, i, p', e3, e4, e5, e6, e7⟩ := h.ev j _ (List.getElem?_eq_getElem hjl)
    have hi : i < Y.length := (List.getElem?_eq_some_iff.1 e3).1
    have hyy : y.L = [] ∧ okB y.v y.d y.t = true ∧ y.tie = p'.y.tie := by
      unfold setLast at hy'
      by_cases e : a.ev.length - 1 = j
      · rw [e, List.getElem?_set_self (by omega), getD_get (List.getElem?_eq_getElem hjl)] at hy'
        injection hy' with hy'
        subst hy'
        exact ⟨e1, hs, e7⟩
      · rw [List.getElem?_set_ne e, List.getElem?_eq_getElem hjl] at hy'
        injection hy' with hy'
        subst hy'
        exact ⟨e1, e2, e7⟩
    refine ⟨hyy.1, hyy.2.1, i, p', by rw [List.getElem?_append_left hi]; exact e3, by rw [hold i hi]; exact e4, fun i' g => by rw [hold i' (by omega)]; exact e5 i' g, fun i' p'' g1 g2 g3 => ?_, hyy.2.2⟩
    rcases get_app _ _ _ _ g2 with ⟨g4, g5⟩ | ⟨g4, g5⟩
    · rw [hold i' g4] at g3; exact e6 i' p'' g1 g5 g3
    · rw [← g5]; exact ht
theorem jnI2_step {Y : List TmP} {a : JnS} {p : TmP} (h : JnI2 Y a) (hp : okB p.v p.d p.t = true) (h0 : p.y.tie = true → 0 < Y.length) : JnI2 (Y ++ [p]) (jnStep a p) := by
  unfold jnStep
  split
  · rename_i s hs
    split
    · rename_i ht
      have ht' : p.y.tie = true := by
        cases e : p.y.tie with
        | true => rfl
        | false => rw [e] at ht; cases ht
      exact jnI2_mrg h (h0 ht') (soOf_ok hs) ht'
    · exact jnI2_new h hp
  · exact jnI2_new h hp
theorem jnI2_fold : ∀ (X Y : List TmP) (a : JnS), JnI2 Y a → (∀ p ∈ X, okB p.v p.d p.t = true) → (Y = [] → ∀ p, X.head? = some p → p.y.tie = false) → JnI2 (Y ++ X) (X.foldl jnStep a)
  | [], Y, a, h, _, _ => by rwa [List.append_nil]
  | p :: X, Y, a, h, hX, h0 => by
    have h1 := jnI2_step h (hX p (List.mem_cons_self ..)) (fun ht => by
      rcases Nat.eq_zero_or_pos Y.length with e | e
      · have := h0 (List.length_eq_zero_iff.1 e) p rfl
        rw [ht] at this; cases this
      · exact e)
    have := jnI2_fold X (Y ++ [p]) _ h1 (fun q hq => hX q (List.mem_cons_of_mem _ hq)) (fun e => by simp at e)
    rw [List.append_assoc] at this
    exact this
theorem join_own {C : List Cr} {S : List Int} {P : List EvP} (h0 : pcErr C S P = 0) : JnI2 (tpL P) (jnAll (tpL P)) := by
  have := jnI2_fold (tpL P) [] ⟨[], [], 0⟩ jnI2_nil (fun p hp => (tm_pos h0 p hp).2) (fun _ p hp => by
    have hp0 : (tpL P)[0]? = some p := by rw [List.head?_eq_getElem?] at hp; exact hp
    have hx := tmPL_yv P 0 0 false false 0 0 p hp0
    have := ((pcErr_ok h0).2.2 0 _ hx).2.1
    unfold tieB at this
    simpa using this)
  rw [List.nil_append] at this
  exact this
theorem join_valid {C : List Cr} {S : List Int} {P : List EvP} (h0 : pcErr C S P = 0) : pcErr C S (jnRes P) = 0 := by
  unfold jnRes
  have hI := join_own h0
  generalize jnAll (tpL P) = a at hI
  have hlen : (tpL P).length = P.length := tmPL_len P 0 0 false false 0
  have hel := hI.el
  have hbd : ∀ i, i < P.length → 0 ≤ a.bc.getD i 0 ∧ a.bc.getD i 0 < a.ev.length := fun i h => hI.bd i (by rw [hlen]; exact h)
  have hmono : ∀ i k, i ≤ k → k < P.length → a.bc.getD i 0 ≤ a.bc.getD k 0 := fun i k h1 h2 => hI.mono i k h1 (by rw [hlen]; exact h2)
  have h400 := (pcErr_ok h0).2.1
  have hget : ∀ (j : Nat) (y' : EvP), (mvL a.bc P P.length a.ev)[j]? = some y' → ∃ y, a.ev[j]? = some y := fun j y' h => by
    have : j < a.ev.length := by
      have := (List.getElem?_eq_some_iff.1 h).1
      rwa [mvL_len] at this
    exact ⟨_, List.getElem?_eq_getElem this⟩
  refine regroup h0 (by rw [mvL_len]; omega) hmono (fun i hi => by rw [mvL_len]; exact (hbd i hi).2) (fun y' hy' => ?_) (fun j y' hy' => ?_) (fun y' hy' s hs => ?_)
  · obtain ⟨j, hj, rfl⟩ := List.getElem_of_mem hy'
    have hj' := List.getElem?_eq_getElem hj
    obtain ⟨y, hy⟩ := hget j _ hj'
    have hok := (hI.ev j y hy).2.1
    rcases mvL_at a.bc P a.ev j y hy P.length with ⟨_, _, _, _, e⟩ | ⟨_, e⟩
    · rw [hj'] at e
      injection e with e
      rw [e]; exact hok
    · rw [hj'] at e
      injection e with e
      rw [e]; exact hok
  · obtain ⟨y, hy⟩ := hget j y' hy'
    obtain ⟨hL, hok, i, p, e3, e4, e5, e6, e7⟩ := hI.ev j y hy
    have hx := tmPL_yv P 0 0 false false 0 i p e3
    have hil : i < P.length := (List.getElem?_eq_some_iff.1 hx).1
    have hxD : P.getD i z6 = p.y := getD_get hx
    have hup : ∀ i', i' < P.length → (j : Int) ≤ a.bc.getD i' 0 → i ≤ i' := fun i' h1 h2 => by
      rcases Nat.lt_or_ge i' i with h | h
      · have := e5 i' h; omega
      · exact h
    have hlo : ∀ i', i' < P.length → a.bc.getD i' 0 < j → i' ≤ i := fun i' h1 h2 => by
      rcases Nat.lt_or_ge i i' with h | h
      · have := hmono i i' (by omega) h1; omega
      · exact h
    have htie := ((pcErr_ok h0).2.2 i p.y hx).2.1
    have hself : ∀ i2, i2 < P.length → (a.bc.getD i2 0).toNat = j → (P.getD i2 z6).L ≠ [] → i2 = i := fun i2 h1 h2 h3 => by
      have b2 := hbd i2 h1
      have u1 := hup i2 h1 (by omega)
      by_cases e : i2 = i
      · exact e
      · obtain ⟨p2, hp2⟩ : ∃ p2, (tpL P)[i2]? = some p2 := ⟨_, List.getElem?_eq_getElem (by rw [hlen]; exact h1)⟩
        have ht2 := e6 i2 p2 (by omega) hp2 (by omega)
        have hx2 := tmPL_yv P 0 0 false false 0 i2 p2 hp2
        have htb := ((pcErr_ok h0).2.2 i2 _ hx2).2.1
        rw [getD_get hx2] at h3
        have hne : p2.y.L.length ≠ 0 := fun h => h3 (List.length_eq_zero_iff.1 h)
        unfold tieB at htb
        rw [ht2] at htb
        simp [hne] at htb
    refine ⟨i, p.y, ?_⟩
    rcases mvL_at a.bc P a.ev j y hy P.length with ⟨i2, g1, g2, g3, e⟩ | ⟨g1, e⟩
    · obtain rfl := hself i2 g1 g2 g3
      rw [hy'] at e
      injection e with e
      rw [hxD] at g3 e
      have hne : p.y.L.length ≠ 0 := fun h => g3 (List.length_eq_zero_iff.1 h)
      refine ⟨hx, ?_, by omega, hup, hlo, .inr ⟨e4.symm, by rw [e]⟩, fun ht => ?_⟩
      · rw [e]; unfold restB; simp [hne]
      · rw [e] at ht
        dsimp only at ht
        rw [e7] at ht
        unfold tieB at htie
        rw [ht] at htie
        simp [hne] at htie
    · rw [hy'] at e
      injection e with e
      subst e
      have hxL : p.y.L = [] := by rw [← hxD]; exact g1 i hil (by omega)
      refine ⟨hx, by unfold restB; rw [hL, hxL, e7], by omega, hup, hlo, .inl hL, fun ht => ⟨hL, ?_⟩⟩
      rw [e7] at ht
      unfold tieB at htie
      rw [ht] at htie
      simp [hxL] at htie
      have := e5 0 (by omega)
      have := hbd 0 (by omega)
      omega
  · obtain ⟨j, hj, rfl⟩ := List.getElem_of_mem hy'
    have hj' := List.getElem?_eq_getElem hj
    obtain ⟨y, hy⟩ := hget j _ hj'
    have hL := (hI.ev j y hy).1
    rcases mvL_at a.bc P a.ev j y hy P.length with ⟨i2, g1, g2, g3, e⟩ | ⟨_, e⟩
    · rw [hj'] at e
      injection e with e
      rw [e] at hs
      obtain ⟨s0, hs0, rfl⟩ := List.mem_map.1 hs
      obtain ⟨k1, k2⟩ := hold_in h0 g1 s0 hs0
      have k3 := (stsErr_mem _ 0 ((pcErr_ok h0).2.2 i2 _ (show P[i2]? = some (P.getD i2 z6) by simp [List.getD_eq_getElem?_getD, List.getElem?_eq_getElem g1])).2.2 s0 hs0).2
      have k4 := lgst_le P i2 s0.c
      have k5 := hI.lip i2 s0.h.toNat (by rw [hlen]; omega)
      show a.bc.getD (i2 + s0.h.toNat) 0 - a.bc.getD i2 0 ≤ 15
      omega
    · rw [hj'] at e
      injection e with e
      rw [e, hL] at hs
      cases hs

/-! ### The other rewritings -/
theorem plain_valid {C : List Cr} {S : List Int} {P : List EvP} (h0 : pcErr C S P = 0) : pcErr C S (setG P (frcL s0g P)) = 0 :=
  set_valid h0 (frcL_len s0g P) (fun _ g hg => .inl (frc_ok0 h0 g (List.mem_of_getElem? hg)))
theorem terse_valid {C : List Cr} {S : List Int} {P : List EvP} (h0 : pcErr C S P = 0) : pcErr C S (setG P (terG false s0g (frcL s0g P))) = 0 :=
  set_valid h0 (by rw [terG_len, frcL_len]) (fun j g hg => by
    rcases terG_ok _ false s0g (frc_ok0 h0) j g hg with h | ⟨h1, h2⟩
    · exact .inl h
    · refine .inr ⟨h1, ?_⟩
      rcases h2 with h2 | h2
      · cases h2
      · exact h2)
theorem bare_valid {C : List Cr} {S : List Int} {P : List EvP} (h0 : pcErr C S P = 0) : pcErr C S (P.map bareE) = 0 := by
  obtain ⟨h1, h2, h3⟩ := pcErr_ok h0
  refine pcErr_mk h1 (by rw [List.length_map]; exact h2) (fun j y hy => ?_)
  rw [List.getElem?_map] at hy
  obtain ⟨x, hx, rfl⟩ := Option.map_eq_some_iff.1 hy
  obtain ⟨k1, k2, k3⟩ := h3 j x hx
  refine ⟨k1, ?_, ?_⟩
  · unfold tieB at k2 ⊢
    simpa [bareE] using k2
  · show stsErr C (P.map bareE) j 0 (x.L.map bareS) = 0
    have key : ∀ (M : List St) (bf : Int), stsErr C P j bf M = 0 → stsErr C (P.map bareE) j bf (M.map bareS) = 0 := by
      intro M
      induction M with
      | nil => intro _ _; rfl
      | cons s M ih =>
        intro bf hz
        unfold stsErr at hz
        have ez : stErr C P j bf s = 0 := by
          by_cases h1 : stErr C P j bf s = 0
          · exact h1
          · rw [if_neg h1] at hz
            exact absurd hz h1
        rw [if_pos ez] at hz
        obtain ⟨a1, a2, a3, a4, a5⟩ := stErr_ok ez
        have hnew : stErr C (P.map bareE) j bf (bareS s) = 0 := by
          refine stErr_of a1 a2 a3 (by simp [bareS]) ?_
          simp only [bareS]
          omega
        show (if stErr C (P.map bareE) j bf (bareS s) = 0 then stsErr C (P.map bareE) j (bareS s).c (M.map bareS) else _) = 0
        rw [if_pos hnew]
        exact ih s.c hz
    exact key x.L 0 k3
theorem augB_sgn {b : Int} {j : Nat} {y : EvP} (h : sgnB j y = false) (hok : augOk b y = true) : sgnB j (augE b y) = false := by
  by_cases h0 : y.v = 0
  · rw [augE, if_pos h0]; exact h
  · have h1 : 1 ≤ y.v - b ∧ y.v - b ≤ 7 := by simpa [augOk, h0] using hok
    rw [augE, if_neg h0]
    have hw : wrB y.v y.d y.t = true := by simp [wrB, h0]
    unfold sgnB at h
    rw [hw] at h
    have hb : okB y.v y.d y.t = true := by
      cases hk : okB y.v y.d y.t with
      | true => rfl
      | false => rw [hk] at h; simp at h
    have hdt : (y.d && y.t) = false := by
      simp [okB] at hb
      cases hd : y.d <;> simp_all
    refine okB_sgn ?_
    unfold okB
    dsimp only
    rw [hdt]
    simp
    omega
theorem augB_valid {C : List Cr} {S : List Int} {P : List EvP} {b : Int} (h0 : pcErr C S P = 0) (hall : P.all (augOk b) = true) : pcErr C S (P.map (augE b)) = 0 := by
  refine pcErr_keep h0 (by simp) (fun j x y hx hy => ?_)
  rw [List.getElem?_map, hx] at hy
  obtain rfl : augE b x = y := by simpa using hy
  have hok := List.all_eq_true.1 hall x (List.mem_of_getElem? hx)
  refine ⟨?_, ?_, augB_sgn ((pcErr_ok h0).2.2 j x hx).1 hok⟩
  · unfold augE; split <;> rfl
  · unfold augE; split <;> rfl

end Go.Proofs.YtdhjigaocamglaaDoor
