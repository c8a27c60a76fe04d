/- Sound: the sonorities of a piece (plain lists). -/
import Derived.Test.YtpcehgifpajmbaaCrs
import Derived.Test.YtpcehgifpajmbaaWorks5
import Derived.Lib.SlicesCompact
import Derived.Test.YtpcehgifpajmbaaSndAt2
import Derived.Shelf.Slices.CompactI
import Derived.Test.YtpcehgifpajmbaaPcCopy
namespace Go.Proofs.Ytpcehgifpajmbaa
open Go Go.RowKit

structure Sn where
  fm : Int
  to : Int
  ps : List Int
def zSn : Sn := ⟨0, 0, []⟩
/-- The times at which something begins or ends. -/
def tmU (T : List Nt) (en : Int) : List Int := 0 :: en :: T.flatMap fun x => [x.fm, x.to]
def tmB (T : List Nt) (en t : Int) : Bool := decide (t ∈ tmU T en)
theorem tmB_iff (T : List Nt) (en t : Int) : tmB T en t = true ↔ (t = 0 ∨ t = en ∨ ∃ x ∈ T, x.fm = t ∨ x.to = t) := by
  unfold tmB tmU
  rw [decide_eq_true_iff, List.mem_cons, List.mem_cons, List.mem_flatMap]
  refine ⟨fun h => ?_, fun h => ?_⟩
  · rcases h with h | h | ⟨x, hx, h⟩
    · exact .inl h
    · exact .inr (.inl h)
    · simp at h
      exact .inr (.inr ⟨x, hx, by rcases h with h | h <;> simp [h]⟩)
  · rcases h with h | h | ⟨x, hx, h⟩
    · exact .inl h
    · exact .inr (.inl h)
    · exact .inr (.inr ⟨x, hx, by rcases h with h | h <;> simp [h]⟩)
theorem lt_eq : ∀ {A B : List Int}, A.Pairwise (fun a b => a < b) → B.Pairwise (fun a b => a < b) → (∀ x, x ∈ A ↔ x ∈ B) → A = B := by
  intro A B hA hB h
  refine List.Perm.eq_of_pairwise (le := fun a b => decide (a ≤ b) = true) (fun a b _ _ h1 h2 => by simp at *; omega) (hA.imp (by intro a b h; simp; omega)) (hB.imp (by intro a b h; simp; omega)) ?_
  exact (List.perm_ext_iff_of_nodup (hA.imp (by intro a b h; omega)) (hB.imp (by intro a b h; omega))).2 h
theorem compact_lt {zs : List Int} (h : zs.Pairwise (fun a b => a ≤ b)) : (Lib.compact zs).Pairwise (fun a b => a < b) ∧ ∀ x, x ∈ Lib.compact zs ↔ x ∈ zs := by
  have hg : ∀ j, j < zs.length → zs.toArray[j]! = zs.getD j 0 := fun j hj => by
    simp [List.getD_eq_getElem?_getD, getElem!_def, List.getElem?_eq_getElem hj]
  have hle : ∀ i j, i ≤ j → j < zs.length → zs.getD i 0 ≤ zs.getD j 0 := fun i j hij hj => by
    simp only [List.getD_eq_getElem?_getD, List.getElem?_eq_getElem hj, List.getElem?_eq_getElem (show i < zs.length by omega), Option.getD_some]
    rcases Nat.lt_or_ge i j with hlt | hge
    · exact List.pairwise_iff_getElem.1 h i j (by omega) hj hlt
    · obtain rfl : i = j := by omega
      exact Int.le_refl _
  unfold Lib.compact Lib.compactUpTo
  refine ⟨?_, fun x => ?_⟩
  · rw [List.pairwise_map]
    refine List.Pairwise.imp_of_mem ?_ ((List.pairwise_lt_range (n := zs.length)).filter _)
    intro i j hi hj hij
    rw [List.mem_filter, List.mem_range] at hi hj
    have hk := hj.2
    unfold Lib.keeps at hk
    rw [decide_eq_true_iff] at hk
    rw [hg i hi.1, hg j hj.1]
    rcases hk with hk | hk
    · omega
    · rw [hg j hj.1, hg (j - 1) (by omega)] at hk
      have h1 := hle i (j - 1) (by omega) (by omega)
      have h2 := hle (j - 1) j (by omega) hj.1
      omega
  · rw [List.mem_map]
    refine ⟨fun hx => ?_, fun hx => ?_⟩
    · obtain ⟨j, hj, rfl⟩ := hx
      rw [List.mem_filter, List.mem_range] at hj
      rw [hg j hj.1, List.getD_eq_getElem?_getD, List.getElem?_eq_getElem hj.1]
      exact List.getElem_mem hj.1
    · obtain ⟨k, hk, rfl⟩ := List.getElem_of_mem hx
      have hgk : zs.getD k 0 = zs[k] := by simp [List.getD_eq_getElem?_getD, List.getElem?_eq_getElem hk]
      have : ∀ k, k < zs.length → ∃ j, j < zs.length ∧ zs.getD j 0 = zs.getD k 0 ∧ (j = 0 ∨ zs.getD j 0 ≠ zs.getD (j - 1) 0) := by
        intro k
        induction k with
        | zero => intro h; exact ⟨0, h, rfl, .inl rfl⟩
        | succ k ih =>
          intro h
          by_cases he : zs.getD (k + 1) 0 = zs.getD k 0
          · obtain ⟨j, h1, h2, h3⟩ := ih (by omega)
            exact ⟨j, h1, h2.trans he.symm, h3⟩
          · exact ⟨k + 1, h, rfl, .inr (by simpa using he)⟩
      obtain ⟨j, h1, h2, h3⟩ := this k hk
      refine ⟨j, List.mem_filter.2 ⟨List.mem_range.2 h1, ?_⟩, by rw [hg j h1, h2, hgk]⟩
      unfold Lib.keeps
      rw [decide_eq_true_iff]
      rcases h3 with h3 | h3
      · exact .inl h3
      · by_cases hj : j = 0
        · exact .inl hj
        · exact .inr (by rw [hg j h1, hg (j - 1) (by omega)]; exact h3)
theorem onsL_pos {C : List Cr} {S : List Int} {P : List EvP} (h : pcErr C S P = 0) : (onsL C S P).length = P.length + 1 := by unfold onsL; rw [if_pos h]; simp [sumL_len, frcL_len]
theorem ons_zero {C : List Cr} {S : List Int} {P : List EvP} (h : pcErr C S P = 0) : onAt (onsL C S P) 0 = 0 := by unfold onAt onsL; rw [if_pos h]; rfl
theorem ons_pw {C : List Cr} {S : List Int} {P : List EvP} (h : pcErr C S P = 0) : (onsL C S P).Pairwise (fun a b => a < b) := by
  rw [List.pairwise_iff_getElem]
  intro i j hi hj hij
  have hl := onsL_pos h
  have := (ons_rise h i (j - i) (by omega)).2 (by omega)
  rw [show i + (j - i) = j by omega] at this
  unfold onAt at this
  simpa [List.getD_eq_getElem?_getD, List.getElem?_eq_getElem hi, List.getElem?_eq_getElem hj] using this
theorem end_ons {C : List Cr} {S : List Int} {P : List EvP} (h : pcErr C S P = 0) : endT C S P = onAt (onsL C S P) P.length := by
  unfold endT
  rw [if_pos h, onsL_pos h]
  rfl
theorem on_mem {O : List Int} {i : Nat} (h : i < O.length) : onAt O i ∈ O := by
  unfold onAt
  rw [List.getD_eq_getElem?_getD, List.getElem?_eq_getElem h]
  exact List.getElem_mem h
/-- A string begins and ends at onsets, in this order, no string is silent. -/
theorem stL_on {C : List Cr} {S : List Int} {P : List EvP} {x : Nt} (hx : x ∈ stL C S P) : pcErr C S P = 0 ∧ x.fm ∈ onsL C S P ∧ x.to ∈ onsL C S P ∧ x.fm < x.to := by
  have key : ∀ y ∈ ntL C S P, pcErr C S P = 0 ∧ y.fm ∈ onsL C S P ∧ y.to ∈ onsL C S P ∧ y.fm < y.to := by
    intro y hy
    obtain ⟨z, hz, rfl⟩ := List.mem_map.1 hy
    obtain ⟨h0, j, ev, s, hj, hs, hok, rfl⟩ := pyL_mem hz
    have hjl := (List.getElem?_eq_some_iff.1 hj).1
    have hb := endN_bd hjl hok
    have hl := onsL_pos h0
    exact ⟨h0, on_mem (by omega), on_mem (by omega), (ntL_apart h0).2 _ hy⟩
  obtain ⟨y, hy, hxy⟩ := List.mem_flatMap.1 hx
  have hk := key y hy
  unfold stOf at hxy
  split at hxy
  · rcases List.mem_cons.1 hxy with rfl | hxy
    · exact hk
    · rcases List.mem_cons.1 hxy with rfl | hxy
      · exact hk
      · cases hxy
  · rcases List.mem_cons.1 hxy with rfl | hxy
    · exact hk
    · cases hxy
def tuL (C : List Cr) (S : List Int) (P : List EvP) : List Int := (onsL C S P).filter (tmB (stL C S P) (endT C S P))
theorem tuL_mem {C : List Cr} {S : List Int} {P : List EvP} (h : pcErr C S P = 0) (t : Int) : t ∈ tuL C S P ↔ t ∈ tmU (stL C S P) (endT C S P) := by
  unfold tuL
  rw [List.mem_filter]
  have e : tmB (stL C S P) (endT C S P) t = true ↔ t ∈ tmU (stL C S P) (endT C S P) := by unfold tmB; rw [decide_eq_true_iff]
  rw [e]
  refine ⟨fun h => h.2, fun ht => ⟨?_, ht⟩⟩
  have hl := onsL_pos h
  rcases (tmB_iff _ _ t).1 (e.2 ht) with rfl | rfl | ⟨x, hx, h1 | h1⟩
  · have := on_mem (O := onsL C S P) (i := 0) (by omega)
    rwa [ons_zero h] at this
  · rw [end_ons h]; exact on_mem (by omega)
  · rw [← h1]; exact (stL_on hx).2.1
  · rw [← h1]; exact (stL_on hx).2.2.1
theorem tuL_pw {C : List Cr} {S : List Int} {P : List EvP} (h : pcErr C S P = 0) : (tuL C S P).Pairwise (fun a b => a < b) := (ons_pw h).filter _
/-- What sort and Compact make of the times. -/
theorem tm_sort {C : List Cr} {S : List Int} {P : List EvP} (h : pcErr C S P = 0) : Lib.compact ((tmU (stL C S P) (endT C S P)).mergeSort fun x y => decide (x ≤ y)) = tuL C S P := by
  have tr : ∀ a b c : Int, decide (a ≤ b) = true → decide (b ≤ c) = true → decide (a ≤ c) = true := fun a b c h1 h2 => by simp at *; omega
  have to : ∀ a b : Int, (decide (a ≤ b) || decide (b ≤ a)) = true := fun a b => by simp; omega
  obtain ⟨h1, h2⟩ := compact_lt ((List.pairwise_mergeSort tr to (tmU (stL C S P) (endT C S P))).imp (by intro a b h; simpa using h))
  refine lt_eq h1 (tuL_pw h) fun x => ?_
  rw [h2, tuL_mem h, (List.mergeSort_perm _ _).mem_iff]

/-- Pairs of times that follow each other. -/
def prs (L : List Int) : List (Int × Int) := L.zip L.tail
theorem prs_two (L : List Int) (b a : Int) : prs (L ++ [b] ++ [a]) = prs (L ++ [b]) ++ [(b, a)] := by
  induction L with
  | nil => rfl
  | cons x r ih =>
    cases r with
    | nil => rfl
    | cons y r2 =>
      have e : ∀ (R : List Int), prs (x :: y :: R) = (x, y) :: prs (y :: R) := fun R => rfl
      simp only [List.cons_append] at ih ⊢
      rw [e, e, ih]
      rfl
theorem prs_len (L : List Int) : (prs L).length = L.length - 1 := by simp [prs]
theorem prs_at (L : List Int) {k : Nat} (h : k + 1 < L.length) : (prs L)[k]? = some (L.getD k 0, L.getD (k + 1) 0) := by
  unfold prs
  rw [List.getElem?_eq_getElem (by simp; omega), List.getElem_zip, List.getElem_tail]
  simp [List.getD_eq_getElem?_getD, List.getElem?_eq_getElem h, List.getElem?_eq_getElem (show k < L.length by omega)]
def snOf (T : List Nt) (L : List Int) : List Sn := (prs L).map fun p => ⟨p.1, p.2, psL T p.1⟩
def snL (C : List Cr) (S : List Int) (P : List EvP) : List Sn := if pcErr C S P = 0 then snOf (stL C S P) (tuL C S P) else []
theorem snOf_len (T : List Nt) (L : List Int) : (snOf T L).length = L.length - 1 := by simp [snOf, prs_len]
theorem snOf_at (T : List Nt) (L : List Int) {k : Nat} (h : k + 1 < L.length) : (snOf T L)[k]? = some ⟨L.getD k 0, L.getD (k + 1) 0, psL T (L.getD k 0)⟩ := by
  unfold snOf
  rw [List.getElem?_map, prs_at L h]
  rfl
theorem snL_none {C : List Cr} {S : List Int} {P : List EvP} (h : pcErr C S P ≠ 0) : snL C S P = [] := by unfold snL; rw [if_neg h]
theorem snOf_two (T : List Nt) (L : List Int) (b a : Int) : snOf T (L ++ [b] ++ [a]) = snOf T (L ++ [b]) ++ [⟨b, a, psL T b⟩] := by
  unfold snOf
  rw [prs_two, List.map_append]
  rfl

/-- The reference: what has been gathered ahead of event k. -/
def rsT (T : List Nt) (en : Int) (O : List Int) (k : Nat) : List Int := (O.take k).filter (tmB T en)
def rsL (T : List Nt) (en : Int) (O : List Int) (k : Nat) : List Sn := if k = 0 then [] else snOf T (rsT T en O k ++ [onAt O k])
theorem take_on {O : List Int} {k : Nat} (h : k < O.length) : O.take (k + 1) = O.take k ++ [onAt O k] := by
  rw [List.take_add_one]
  unfold onAt
  simp [List.getElem?_eq_getElem h]
theorem rsT_yes {T : List Nt} {en : Int} {O : List Int} {k : Nat} (h : k < O.length) (hb : tmB T en (onAt O k) = true) : rsT T en O (k + 1) = rsT T en O k ++ [onAt O k] := by
  unfold rsT
  rw [take_on h, List.filter_append]
  simp [hb]
theorem rsT_no {T : List Nt} {en : Int} {O : List Int} {k : Nat} (h : k < O.length) (hb : tmB T en (onAt O k) = false) : rsT T en O (k + 1) = rsT T en O k := by
  unfold rsT
  rw [take_on h, List.filter_append]
  simp [hb]
theorem rs_turn {T : List Nt} {en : Int} {O : List Int} {k : Nat} (h : k < O.length) (hb : tmB T en (onAt O k) = true) : rsL T en O (k + 1) = rsL T en O k ++ [⟨onAt O k, onAt O (k + 1), psL T (onAt O k)⟩] := by
  unfold rsL
  rw [if_neg (by omega), rsT_yes h hb, snOf_two]
  by_cases hk : k = 0
  · subst hk
    rw [if_pos rfl]
    simp [rsT, snOf, prs]
  · rw [if_neg hk]
theorem rs_stay {T : List Nt} {en : Int} {O : List Int} {k : Nat} (h : k < O.length) (h0 : onAt O 0 = 0) (hk : 0 < k) (hb : tmB T en (onAt O k) = false) :
    ∃ I b, rsL T en O k = I ++ [⟨b, onAt O k, psL T b⟩] ∧ rsL T en O (k + 1) = I ++ [⟨b, onAt O (k + 1), psL T b⟩] := by
  have hm : (0 : Int) ∈ rsT T en O k := by
    unfold rsT
    rw [List.mem_filter]
    refine ⟨?_, by rw [tmB_iff]; exact .inl rfl⟩
    rw [← h0]
    unfold onAt
    rw [List.getD_eq_getElem?_getD, List.getElem?_eq_getElem (show 0 < O.length by omega)]
    rw [List.mem_iff_getElem?]
    exact ⟨0, by rw [List.getElem?_take, if_pos hk, List.getElem?_eq_getElem (show 0 < O.length by omega)]; rfl⟩
  obtain ⟨L, b, hL⟩ : ∃ L b, rsT T en O k = L ++ [b] := by
    rcases List.eq_nil_or_concat (rsT T en O k) with h | ⟨L, b, h⟩
    · rw [h] at hm; cases hm
    · exact ⟨L, b, by rw [h, List.concat_eq_append]⟩
  refine ⟨snOf T (L ++ [b]), b, ?_, ?_⟩
  · unfold rsL
    rw [if_neg (by omega), hL, snOf_two]
  · unfold rsL
    rw [if_neg (by omega), rsT_no h hb, hL, snOf_two]
theorem rs_end {C : List Cr} {S : List Int} {P : List EvP} (h : pcErr C S P = 0) : rsL (stL C S P) (endT C S P) (onsL C S P) P.length = snL C S P := by
  have hl := onsL_pos h
  have e : tuL C S P = rsT (stL C S P) (endT C S P) (onsL C S P) P.length ++ [onAt (onsL C S P) P.length] := by
    rw [← rsT_yes (by omega) (by rw [tmB_iff]; exact .inr (.inl (end_ons h).symm))]
    unfold tuL rsT
    rw [List.take_of_length_le (by omega)]
  unfold rsL snL
  rw [if_pos h, e]
  by_cases hk : P.length = 0
  · rw [if_pos hk, hk]
    simp [rsT, snOf, prs]
  · rw [if_neg hk]
/-- When event k is a turn. -/
theorem tm_turn {C : List Cr} {S : List Int} {P : List EvP} (h : pcErr C S P = 0) {k : Nat} (hk : k < P.length) :
    tmB (stL C S P) (endT C S P) (onAt (onsL C S P) k) = (decide (k = 0) || (stL C S P).any fun x => decide (x.fm = onAt (onsL C S P) k) || decide (x.to = onAt (onsL C S P) k)) := by
  rw [Bool.eq_iff_iff, tmB_iff]
  have h1 := (ons_rise h k (P.length - k) (by omega)).2 (by omega)
  rw [show k + (P.length - k) = P.length by omega, ← end_ons h] at h1
  have h2 := ons_rise h 0 k (by omega)
  rw [Nat.zero_add, ons_zero h] at h2
  simp only [Bool.or_eq_true, decide_eq_true_iff, List.any_eq_true]
  refine ⟨fun hh => ?_, fun hh => ?_⟩
  · rcases hh with hh | hh | hh
    · by_cases h0 : k = 0
      · exact .inl h0
      · have := h2.2 (by omega); omega
    · omega
    · exact .inr hh
  · rcases hh with rfl | hh
    · exact .inl (ons_zero h)
    · exact .inr (.inr hh)

/-- Between two times that follow each other nothing changes. -/
theorem psL_same {T : List Nt} {a t : Int} (h : ∀ x ∈ T, (decide (x.fm ≤ a) && decide (a < x.to)) = (decide (x.fm ≤ t) && decide (t < x.to))) : psL T a = psL T t := by
  unfold psL
  refine List.filter_congr fun p _ => ?_
  rw [Bool.eq_iff_iff, List.any_eq_true, List.any_eq_true]
  refine ⟨fun ⟨x, hx, h1⟩ => ⟨x, hx, ?_⟩, fun ⟨x, hx, h1⟩ => ⟨x, hx, ?_⟩⟩
  · unfold sndB at h1 ⊢; rw [← h x hx]; exact h1
  · unfold sndB at h1 ⊢; rw [h x hx]; exact h1
theorem sn_in {C : List Cr} {S : List Int} {P : List EvP} (h : pcErr C S P = 0) {k : Nat} (hk : k + 1 < (tuL C S P).length) {t : Int} (h1 : (tuL C S P).getD k 0 ≤ t) (h2 : t < (tuL C S P).getD (k + 1) 0) : psL (stL C S P) ((tuL C S P).getD k 0) = psL (stL C S P) t := by
  have hpw := tuL_pw h
  have gap : ∀ u, u ∈ tuL C S P → u ≤ (tuL C S P).getD k 0 ∨ (tuL C S P).getD (k + 1) 0 ≤ u := by
    intro u hu
    obtain ⟨j, hj, rfl⟩ := List.getElem_of_mem hu
    have e : ∀ i (hi : i < (tuL C S P).length), (tuL C S P).getD i 0 = (tuL C S P)[i] := fun i hi => by simp [List.getD_eq_getElem?_getD, List.getElem?_eq_getElem hi]
    rw [e k (by omega), e (k + 1) hk]
    rcases Nat.lt_trichotomy j k with hlt | rfl | hgt
    · have := List.pairwise_iff_getElem.1 hpw j k hj (by omega) hlt
      left; omega
    · left; exact Int.le_refl _
    · rcases Nat.lt_or_ge (k + 1) j with h3 | h3
      · have := List.pairwise_iff_getElem.1 hpw (k + 1) j hk hj h3
        right; omega
      · obtain rfl : j = k + 1 := by omega
        right; exact Int.le_refl _
  refine psL_same fun x hx => ?_
  have hmem : ∀ u, (u = x.fm ∨ u = x.to) → u ∈ tuL C S P := fun u hu => by
    rw [tuL_mem h]
    unfold tmU
    rw [List.mem_cons, List.mem_cons, List.mem_flatMap]
    exact .inr (.inr ⟨x, hx, by rcases hu with rfl | rfl <;> simp⟩)
  have g1 := gap x.fm (hmem _ (.inl rfl))
  have g2 := gap x.to (hmem _ (.inr rfl))
  rw [Bool.eq_iff_iff]
  simp only [Bool.and_eq_true, decide_eq_true_iff]
  omega
/-- The times begin at 0, rise, and end at the end. -/
theorem tm_ends {C : List Cr} {S : List Int} {P : List EvP} (h : pcErr C S P = 0) : 0 < (tuL C S P).length ∧ (tuL C S P).getD 0 0 = 0 ∧ (tuL C S P).getD ((tuL C S P).length - 1) 0 = endT C S P ∧ (∀ k, k + 1 < (tuL C S P).length → (tuL C S P).getD k 0 < (tuL C S P).getD (k + 1) 0) ∧ (tuL C S P).length ≤ P.length + 1 := by
  have hpw := tuL_pw h
  have e : ∀ i (hi : i < (tuL C S P).length), (tuL C S P).getD i 0 = (tuL C S P)[i] := fun i hi => by simp [List.getD_eq_getElem?_getD, List.getElem?_eq_getElem hi]
  have hz : (0 : Int) ∈ tuL C S P := by rw [tuL_mem h]; simp [tmU]
  have hen : endT C S P ∈ tuL C S P := by rw [tuL_mem h]; simp [tmU]
  have hbd : ∀ u ∈ tuL C S P, 0 ≤ u ∧ u ≤ endT C S P := by
    intro u hu
    unfold tuL at hu
    obtain ⟨j, hj, rfl⟩ := List.getElem_of_mem (List.mem_filter.1 hu).1
    have hl := onsL_pos h
    have ej : (onsL C S P)[j] = onAt (onsL C S P) j := by unfold onAt; simp [List.getD_eq_getElem?_getD, List.getElem?_eq_getElem hj]
    rw [ej]
    have h2 := (ons_rise h 0 j (by omega)).1
    rw [Nat.zero_add, ons_zero h] at h2
    have h3 := (ons_rise h j (P.length - j) (by omega)).1
    rw [show j + (P.length - j) = P.length by omega, ← end_ons h] at h3
    exact ⟨h2, h3⟩
  have hp : 0 < (tuL C S P).length := List.length_pos_of_mem hz
  refine ⟨hp, ?_, ?_, fun k hk => ?_, ?_⟩
  · obtain ⟨j, hj, ej⟩ := List.getElem_of_mem hz
    rw [e 0 hp]
    have := hbd _ (List.getElem_mem hp)
    rcases Nat.eq_zero_or_pos j with rfl | hj0
    · exact ej
    · have := List.pairwise_iff_getElem.1 hpw 0 j hp hj hj0
      omega
  · obtain ⟨j, hj, ej⟩ := List.getElem_of_mem hen
    rw [e _ (by omega)]
    have := hbd _ (List.getElem_mem (show (tuL C S P).length - 1 < (tuL C S P).length by omega))
    by_cases hj1 : j = (tuL C S P).length - 1
    · subst hj1; exact ej
    · have := List.pairwise_iff_getElem.1 hpw j ((tuL C S P).length - 1) hj (by omega) (by omega)
      omega
  · rw [e k (by omega), e (k + 1) hk]
    exact List.pairwise_iff_getElem.1 hpw k (k + 1) (by omega) hk (by omega)
  · have hl := onsL_pos h
    unfold tuL
    exact Nat.le_trans (List.length_filter_le _ _) (by omega)

/-- The sonorities that clash. -/
def clOf (L : List Sn) : List Sn := L.filter fun s => !pconB s.ps

end Go.Proofs.Ytpcehgifpajmbaa

/- Sound: the times at which something begins or ends (turns), for any strings. -/
namespace Go.Proofs.Ytpcehgifpajmbaa
open Go Go.RowKit Go.Sort

/-- A slice of numbers that the call owns: its block, and that it holds them. -/
theorem own_holds {w : World} {base c : Nat} {A : Option Addr} {zs : List Int} (h : w.ownsRow base 3 1 (.slice A zs.length c) zs.length (intC zs)) (h0 : 0 < zs.length) :
    ∃ g, A = some ⟨g, 0, none⟩ ∧ base ≤ g ∧ g < w.heap.size ∧ Holds (Value.int .i64) w g 0 zs.toArray ∧ zs.length ≤ c ∧ c ≤ maxLen ∧ ∃ cur, w.heap[g]? = some (.cells cur 3 (0, 0)) ∧ cur.size = c * 1 := by
  rcases h.2 with ⟨hv, hz⟩ | ⟨g, cap, cur, hv, hbase, hb, h1, h2, h3, h4⟩
  · omega
  · injection hv with e1 e2 e3
    subst e1 e3
    exact ⟨g, rfl, hbase, (Array.getElem?_eq_some_iff.1 hb).1, holds_of_blockI hb (by simpa [intC] using h4), h1, h2, cur, hb, h3⟩
set_option maxHeartbeats 1600000 in
/-- slices.Sort of numbers that the call owns. -/
theorem sort_own (base : Nat) (A : Option Addr) (c : Nat) (zs : List Int) (w : World) (h : w.ownsRow base 3 1 (.slice A zs.length c) zs.length (intC zs)) (h0 : 0 < zs.length) (hb : zs.length ≤ 1000000) :
    Calls Try.prog 52 #[.slice A zs.length c] w fun e w' => e = .returned (.tuple #[]) ∧ w'.ownsRow base 3 1 (.slice A zs.length c) zs.length (intC (zs.mergeSort fun x y => decide (x ≤ y))) ∧ Below base w w' := by
  obtain ⟨g, rfl, hbase, hg, hH, h1, h2, cur, hbk, h3⟩ := own_holds h h0
  refine (Try.slices_Sort_int g 0 c zs w hH hg (by omega)).mono ?_
  rintro e w' ⟨rfl, nn, os, rfl⟩
  refine ⟨rfl, ownsRow_sortedI (by simp) hbase hbk h1 h2 h3, Below.grown (Below.refl _ _) (grownBy_sortedI _) (by omega) (fun j hj => by cases hj; exact hbase)⟩
set_option maxHeartbeats 1600000 in
/-- slices.Compact of numbers that the call owns. -/
theorem compact_own (base : Nat) (A : Option Addr) (n c : Nat) (zs : List Int) (w : World) (hn : n = zs.length) (h : w.ownsRow base 3 1 (.slice A n c) n (intC zs)) (h0 : 0 < n) (hb : n ≤ 1000000) :
    Calls Try.prog 53 #[.slice A n c] w fun e w' => ∃ m, e = .returned (.slice A m c) ∧ m = (Lib.compact zs).length ∧ Sl w' w'.heap.size 1 A m c (intC (Lib.compact zs)) ∧ Below base w w' := by
  subst hn
  obtain ⟨g, rfl, hbase, hg, hH, h1, h2, cur, hbk, h3⟩ := own_holds h h0
  have hle : (Lib.compact zs).length ≤ zs.length := by
    unfold Lib.compact Lib.compactUpTo
    rw [List.length_map]
    exact Nat.le_trans (List.length_filter_le _ _) (by simp)
  refine (Try.slices_Compact_int g 0 c zs w hH (by omega) h1).mono ?_
  rintro e w' ⟨rfl, q, rfl⟩
  have hsz : (Lib.compact zs ++ List.replicate (zs.length - (Lib.compact zs).length) 0).toArray.size = zs.toArray.size := by simp; omega
  have hh := holds_putRow (Value.int .i64) (Sort.ahead w q) g 0 zs.toArray (Lib.compact zs ++ List.replicate (zs.length - (Lib.compact zs).length) 0).toArray (holds_ahead _ w q g 0 zs.toArray hH) hsz
  have hgb := grownBy_sortedI (w := w) (g := g) (n := q) (os := #[]) (Lib.compact zs ++ List.replicate (zs.length - (Lib.compact zs).length) 0).toArray
  rw [grow_empty] at hgb
  refine ⟨_, rfl, rfl, ⟨by omega, by simp [intC], fun h => ⟨g, 0, rfl, by rw [size_putRow]; exact hg, fun j u hu => ?_⟩⟩, Below.grown (Below.refl _ _) hgb (by omega) (fun j hj => by cases hj; exact hbase)⟩
  have hj : j < (Lib.compact zs).length := by
    have := (List.getElem?_eq_some_iff.1 hu).1
    simpa [intC] using this
  have := (hh j (by simp; omega)).1
  rw [this]
  rw [← hu]
  simp [intC, List.getElem?_map, List.getElem?_eq_getElem hj, getElem!_def, List.getElem?_append_left hj]

theorem Own1.stepM {W1 wr w2 w3 : World} {e : TypeId} {size m : Nat} {A : Option Addr} {k c : Nat} {xs news : List Value} {v' : Value} {O : Obj} {B : Nat} (h : Own1 W1 wr e size A k c xs) (hb : Below wr.heap.size wr w2) (hB : B = W1.heap.size)
    (hown : w3.ownsRow B e size v' (k + m) (xs ++ news)) (hg : (w2.alloc O).grownBy w3 (Value.slice A k c).ownBlock) :
    ∃ A' c', v' = .slice A' (k + m) c' ∧ Own1 W1 w3 e size A' (k + m) c' (xs ++ news) := by
  subst hB
  obtain ⟨A', c', rfl⟩ := own_slice hown
  have h2 := h.below hb
  refine ⟨A', c', rfl, ⟨hown, ?_⟩⟩
  refine Below.grown (h2.low.alloc h2.low.size O) hg (h2.low.alloc h2.low.size O).size (fun g hh => ?_)
  exact (h.own.lt g hh).1
def tmS (T : List Nt) (en : Int) : List Int := Lib.compact ((tmU T en).mergeSort fun x y => decide (x ≤ y))
theorem tm_step {T : List Nt} {U acc : List Int} {k : Nat} (h : U = acc ++ (T.drop k).flatMap fun x => [x.fm, x.to]) (hk : k < T.length) : U = (acc ++ [(T.getD k zNt).fm, (T.getD k zNt).to]) ++ (T.drop (k + 1)).flatMap fun x => [x.fm, x.to] := by
  rw [h, drop_consN T k hk, List.flatMap_cons]
  simp

set_option maxRecDepth 100000 in
set_option maxHeartbeats 8000000 in
theorem turns_any (A : Option Addr) (n c : Nat) (T : List Nt) (en : Int) (w : World) (hA : Sl w w.heap.size 5 A n c (ntC T)) (hn : n = T.length) (hlim : n ≤ 100000) :
    Calls Try.prog 30 #[.slice A n c, .int .i64 en] w fun e w' => ∃ B m d, e = .returned (.slice B m d) ∧ m = (tmS T en).length ∧ Sl w' w'.heap.size 1 B m d (intC (tmS T en)) ∧ Below w.heap.size w w' := by
  have HA : Hid (∀ w', Below w.heap.size w w' → Sl w' w'.heap.size 5 A n c (ntC T)) := fun w' hb => hA.below hb
  have HN := Lib.hid hn
  have HS : Hid (tmS T en = Lib.compact ((tmU T en).mergeSort fun x y => decide (x ≤ y))) := rfl
  have HU : Hid (tmU T en = [0, en] ++ (T.drop 0).flatMap fun x => [x.fm, x.to]) := rfl
  obtain ⟨i0, ii1, ii2, ii3, ii4⟩ := info_parts Try.info3'
  clear hA hn
  generalize tmS T en = V at *
  generalize tmU T en = U at *
  have HO0 : Hid (Own1 w (w.alloc (.cells #[.int .i64 0, .int .i64 en] 3)) 3 1 (some ⟨w.heap.size, 0, none⟩) 2 2 (intC [0, en])) := ⟨World.ownsRow_lit w #[.int .i64 0, .int .i64 en] 2 (Nat.le_refl _) (by decide) rfl, ba w _⟩
  go_enter Try.func30, Try.ntmps30
  go_wp2_with (fail)
  go_loopw [12, 5] (fun i l wr => ∃ (k : Nat) (acc : List Int) (A1 : Option Addr) (c1 : Nat), k ≤ n ∧ i = .int .i64 k ∧ l = .slice A1 acc.length c1 ∧ Own1 w wr 3 1 A1 acc.length c1 (intC acc) ∧ Hid (U = acc ++ (T.drop k).flatMap fun x => [x.fm, x.to]) ∧ acc.length ≤ 2 * k + 2 ∧ 2 ≤ acc.length) (fun i _ _ => n - (intOf i).toNat)
  case atStart => exact ⟨0, [0, en], _, _, by omega, rfl, rfl, HO0.out, HU, by simp, by simp⟩
  case round =>
    obtain ⟨k, acc, A1, c1, hk, rfl, rfl, hO, HV, hlen, hlen2⟩ := hrel
    have HO := Lib.hid hO
    clear hO
    by_cases hlt : k < n
    · have hkn : (k : Int) < (n : Int) := by omega
      have hkT : k < T.length := by have := HN.out; omega
      obtain ⟨b, off, rfl, hb, hc⟩ := (HA.out _ HO.out.low).2.2 (by omega)
      obtain ⟨j0, j1, j2, j3, j4⟩ := ntC_at T k hkT
      have a0 := hc _ _ j0
      have a1 := hc _ _ j1
      have a2 := hc _ _ j2
      have a3 := hc _ _ j3
      have a4 := hc _ _ j4
      rw [← Nat.add_assoc] at a1 a2 a3 a4
      have HX := Lib.hid (tm_step HV.out hkT)
      clear hc j0 j1 j2 j3 j4 hb hkT
      generalize T.getD k zNt = x at *
      obtain ⟨xe, xc, xp, xf, xt⟩ := x
      dsimp only at a0 a1 a2 a3 a4 HX
      have D1 := World.news_of_block (heap_alloc_new (wr.alloc (.cells #[.int .i64 xe, .int .i64 xc, .int .i64 xp, .int .i64 xf, .int .i64 xt] 64)) (.cells #[.int .i64 xf, .int .i64 xt] 3))
      rw [World.size_alloc] at D1
      have D2 : ∀ u ∈ [Value.int .i64 xf, .int .i64 xt], u.oneCell' = true := by
        intro u hu
        simp at hu
        rcases hu with rfl | rfl <;> rfl
      have D := Lib.hid (And.intro D1 D2)
      clear D1 D2
      have hml : acc.length + 2 ≤ maxLen := Nat.le_trans (show acc.length + 2 ≤ 1000000 by omega) (by decide)
      go_wp2_with (at_builtin; go_loud (refine wpList_append_own _ rfl _ _ 23 rfl w.heap.size 3 i0 _ 1 8 Try.underlying23 ii1 ii2 ii3 ii4 rfl (by decide) (.slice A1 acc.length c1) acc.length _ rfl ((HO.out.own.alloc _).alloc _) ⟨wr.heap.size + 1, 0, none⟩ 2 2 [.int .i64 xf, .int .i64 xt] rfl rfl D.out.1 D.out.2 hml (by omega) (by have := HO.out.low.size; simp; omega) ?_))
      intro v' w3 hown' hgrow _
      obtain ⟨A4, c4, rfl, hO3⟩ := Own1.stepM HO.out (ba wr _) rfl hown' hgrow
      have HO4 : Hid (Own1 w w3 3 1 A4 (acc ++ [xf, xt]).length c4 (intC (acc ++ [xf, xt]))) := by
        unfold Hid
        rw [List.length_append]
        unfold intC
        rw [List.map_append]
        exact hO3
      clear hown' hgrow hO3 a0 a1 a2 a3 a4
      go_wp2_with (fail)
      go_roundw
      case rel => exact ⟨k + 1, _, A4, c4, by omega, by first | rfl | go_num, by simp, HO4.out, HX, by simp; omega, by simp⟩
      case measure => simp [intOf]; omega
    · have hkn : ¬ ((k : Int) < (n : Int)) := by omega
      have HVZ : Hid (U = acc) := by
        have := HV.out
        unfold Hid
        rw [this, List.drop_of_length_le (by have := HN.out; omega)]
        simp
      have HSO := Lib.hid (sort_own w.heap.size A1 c1 acc wr HO.out.own (by omega) (by omega))
      have HLM : Hid (acc.length = (acc.mergeSort fun x y => decide (x ≤ y)).length) := by unfold Hid; simp
      go_wp2_with (first
        | (go_at_call 52; refine HSO.out.mono ?_; rintro e w5 ⟨rfl, hown5, hb5⟩; have HCO := Lib.hid (compact_own w.heap.size A1 acc.length c1 _ w5 HLM.out hown5 (by omega) (by omega)); have HB5 := Lib.hid (HO.out.low.trans hb5); clear hown5 hb5)
        | (go_at_call 53; refine HCO.out.mono ?_; rintro e w6 ⟨m, rfl, hm, hs, hb6⟩; have HM := Lib.hid hm; clear hm))
      go_ret
      refine ⟨A1, m, c1, rfl, ?_, ?_, HB5.out.trans hb6⟩
      · rw [HS.out, HVZ.out]; exact HM.out
      · rw [HS.out, HVZ.out]; exact hs

end Go.Proofs.Ytpcehgifpajmbaa

/- Sound: the sonorities of a piece, in the program (Sonorities), for any piece. -/
namespace Go.Proofs.Ytpcehgifpajmbaa
open Go Go.RowKit

/-- A sonority in memory. -/
structure SnT where
  fm : Int
  to : Int
  a : Option Addr
  n : Nat
  c : Nat
def snC (Z : List SnT) : List Value := Z.flatMap fun x => [.int .i64 x.fm, .int .i64 x.to, .slice x.a x.n x.c]
theorem snC_len (Z : List SnT) : (snC Z).length = Z.length * 3 := by
  induction Z with
  | nil => rfl
  | cons c r ih => simp [snC] at ih ⊢; omega
theorem snC_snoc (Z : List SnT) (x : SnT) : snC (Z ++ [x]) = snC Z ++ [.int .i64 x.fm, .int .i64 x.to, .slice x.a x.n x.c] := by simp [snC]
theorem snC_at : ∀ (Z : List SnT) (k : Nat) (x : SnT), Z[k]? = some x → (snC Z)[k * 3]? = some (.int .i64 x.fm) ∧ (snC Z)[k * 3 + 1]? = some (.int .i64 x.to) ∧ (snC Z)[k * 3 + 2]? = some (.slice x.a x.n x.c)
  | c :: r, 0, x, h => by
    obtain rfl : c = x := by simpa using h
    exact ⟨rfl, rfl, rfl⟩
  | c :: r, k + 1, x, h => by
    have := snC_at r k x (by simpa using h)
    have e : snC (c :: r) = .int .i64 c.fm :: .int .i64 c.to :: .slice c.a c.n c.c :: snC r := rfl
    rw [e, show (k + 1) * 3 = k * 3 + 3 from by omega]
    exact this
def SnEq (x : SnT) (y : Sn) : Prop := x.fm = y.fm ∧ x.to = y.to ∧ x.n = y.ps.length
/-- The sonorities gathered so far: their pitches lie in blocks of their own. -/
def CpS (w : World) (B : Nat) (Z : List SnT) (L : List Sn) : Prop := Z.length = L.length ∧ ∀ (j : Nat) (x : SnT) (y : Sn), Z[j]? = some x → L[j]? = some y → SnEq x y ∧ Ow w B 3 1 x.a x.n x.c (intC y.ps)
theorem CpS.nil (w : World) (B : Nat) : CpS w B [] [] := ⟨rfl, fun j x y h => by simp at h⟩
theorem CpS.blk {w w' : World} {B : Nat} {Z : List SnT} {L : List Sn} (h : CpS w B Z L) (hk : ∀ g cs, Blk w g 3 cs → Blk w' g 3 cs) : CpS w' B Z L :=
  ⟨h.1, fun j x y hx hy => ⟨(h.2 j x y hx hy).1, (h.2 j x y hx hy).2.blk hk⟩⟩
theorem CpS.more {w : World} {B B' : Nat} {Z : List SnT} {L : List Sn} (h : CpS w B Z L) (hB : B' ≤ B) : CpS w B' Z L := ⟨h.1, fun j x y hx hy => ⟨(h.2 j x y hx hy).1, (h.2 j x y hx hy).2.more hB⟩⟩
theorem CpS.snoc {w : World} {B : Nat} {Z : List SnT} {L : List Sn} {x : SnT} {y : Sn} (h : CpS w B Z L) (h1 : SnEq x y) (h2 : Ow w B 3 1 x.a x.n x.c (intC y.ps)) : CpS w B (Z ++ [x]) (L ++ [y]) :=
  ⟨by simp [h.1], fun j x' y' hx' hy' => by
    have hl := h.1
    by_cases hj : j < Z.length
    · rw [List.getElem?_append_left hj] at hx'
      rw [List.getElem?_append_left (by omega)] at hy'
      exact h.2 j x' y' hx' hy'
    · rw [List.getElem?_append_right (by omega)] at hx' hy'
      by_cases hj2 : j = Z.length
      · subst hj2
        rw [hl] at hx' hy'
        simp at hx' hy'
        subst hx' hy'
        exact ⟨h1, h2⟩
      · rw [List.getElem?_eq_none (by simp; omega)] at hx'
        cases hx'⟩
/-- A list of sonorities in memory. -/
def SnIn (w : World) (A : Option Addr) (n c : Nat) (L : List Sn) : Prop := n = L.length ∧ ∃ Z : List SnT, Z.length = L.length ∧ (∀ (j : Nat) (x : SnT) (y : Sn), Z[j]? = some x → L[j]? = some y → SnEq x y ∧ Sl w w.heap.size 1 x.a x.n x.c (intC y.ps)) ∧ Sl w w.heap.size 3 A n c (snC Z)
theorem SnIn.below {w w' : World} {A : Option Addr} {n c : Nat} {L : List Sn} (h : SnIn w A n c L) (hb : Below w.heap.size w w') : SnIn w' A n c L := by
  obtain ⟨h1, Z, h2, h3, h4⟩ := h
  exact ⟨h1, Z, h2, fun j x y hx hy => ⟨(h3 j x y hx hy).1, (h3 j x y hx hy).2.below hb⟩, h4.below hb⟩
theorem SnIn.nil (w : World) : SnIn w none 0 0 [] := ⟨rfl, [], rfl, fun j x y h => by simp at h, Sl.none_ _ _ _⟩
theorem SnIn.at {w : World} {A : Option Addr} {n c : Nat} {L : List Sn} (h : SnIn w A n c L) {k : Nat} (hk : k < n) :
    ∃ b off pa pc, A = some ⟨b, off, none⟩ ∧ b < w.heap.size ∧ L[k]? = some (L.getD k zSn) ∧ w.cell? ⟨b, off + k * 3, none⟩ = some (.int .i64 (L.getD k zSn).fm) ∧ w.cell? ⟨b, off + k * 3 + 1, none⟩ = some (.int .i64 (L.getD k zSn).to) ∧
      w.cell? ⟨b, off + k * 3 + 2, none⟩ = some (.slice pa (L.getD k zSn).ps.length pc) ∧ Sl w w.heap.size 1 pa (L.getD k zSn).ps.length pc (intC (L.getD k zSn).ps) := by
  obtain ⟨hn, Z, hl, hz, hs⟩ := h
  obtain ⟨b, off, hA, hb, hc⟩ := hs.2.2 (by omega)
  have hkL : k < L.length := by omega
  have hkZ : k < Z.length := by omega
  have hg : L.getD k zSn = L[k] := by simp [List.getD_eq_getElem?_getD, List.getElem?_eq_getElem hkL]
  obtain ⟨⟨e1, e2, e3⟩, hp⟩ := hz k Z[k] L[k] (List.getElem?_eq_getElem hkZ) (List.getElem?_eq_getElem hkL)
  obtain ⟨c0, c1, c2⟩ := snC_at Z k Z[k] (List.getElem?_eq_getElem hkZ)
  rw [hg]
  rw [e3] at hp c2
  rw [e1] at c0
  rw [e2] at c1
  refine ⟨b, off, Z[k].a, Z[k].c, hA, hb, List.getElem?_eq_getElem hkL, hc _ _ c0, ?_, ?_, hp⟩
  · have := hc _ _ c1; rwa [← Nat.add_assoc] at this
  · have := hc _ _ c2; rwa [← Nat.add_assoc] at this
/-- A call hands back sonorities of its own and an error. -/
def SnPost (L : List Sn) (er : Int) (w : World) (e : Ending) (w' : World) : Prop :=
  ∃ B n d Z, e = .returned (.tuple #[.slice B n d, .int .i64 er]) ∧ n = L.length ∧ w'.ownsRow w.heap.size 49 3 (.slice B n d) n (snC Z) ∧ CpS w' w.heap.size Z L ∧ Below w.heap.size w w'
theorem snPost_in {w' : World} {B : Option Addr} {n d : Nat} {Z : List SnT} {L : List Sn} {base : Nat} (hn : n = L.length) (h1 : w'.ownsRow base 49 3 (.slice B n d) n (snC Z)) (h2 : CpS w' base Z L) : SnIn w' B n d L :=
  ⟨hn, Z, h2.1, fun j x y hx hy => ⟨(h2.2 j x y hx hy).1, (h2.2 j x y hx hy).2.sl⟩, Sl_own h1⟩
theorem oneS3 (a b : Int) (A : Option Addr) (n c : Nat) : ∀ u ∈ [Value.int .i64 a, .int .i64 b, .slice A n c], u.oneCell' = true := by
  intro u hu
  simp at hu
  rcases hu with rfl | rfl | rfl <;> rfl
theorem tmS_pos (T : List Nt) (en : Int) : 0 < (tmS T en).length := by
  have tr : ∀ a b c : Int, decide (a ≤ b) = true → decide (b ≤ c) = true → decide (a ≤ c) = true := fun a b c h1 h2 => by simp at *; omega
  have to : ∀ a b : Int, (decide (a ≤ b) || decide (b ≤ a)) = true := fun a b => by simp; omega
  obtain ⟨_, h2⟩ := compact_lt ((List.pairwise_mergeSort tr to (tmU T en)).imp (by intro a b h; simpa using h))
  refine List.length_pos_of_mem (a := 0) ?_
  unfold tmS
  rw [h2, (List.mergeSort_perm _ _).mem_iff]
  simp [tmU]
theorem take_snoc_sn {L : List Sn} {k : Nat} (h : k < L.length) : L.take (k + 1) = L.take k ++ [L.getD k zSn] := by rw [List.take_add_one]; simp [List.getElem?_eq_getElem h]

set_option maxRecDepth 100000 in
set_option maxHeartbeats 8000000 in
theorem sons_any (A : Option Addr) (n c : Nat) (A' : Option Addr) (m c' : Nat) (A2 : Option Addr) (q cq : Nat) (C : List Cr) (S : List Int) (P : List EvP) (w : World) (hP : PcIn w A n c A' m c' A2 q cq C S P) (hnb : n ≤ 1000000) (hmb : m ≤ 1000000) (hq : q ≤ 65536) (hst : ∀ y ∈ P, y.L.length ≤ 1000000) :
    Calls Try.prog 12 #[pcV A n c A' m c' A2 q cq] w (SnPost (snL C S P) (pcErr C S P) w) := by
  have HSG := Lib.hid (strung_any A n c A' m c' A2 q cq C S P _ (hP.below (ba w (pcO A n c A' m c' A2 q cq))) hnb hmb hq hst)
  unfold SgPost at HSG
  unfold SnPost
  have HSO := Lib.hid (stL_ok C S P)
  have HSL := Lib.hid (stL_len C S P)
  have HT : Hid (pcErr C S P = 0 → snL C S P = snOf (stL C S P) (tmS (stL C S P) (endT C S P)) ∧ (tmS (stL C S P) (endT C S P)).length ≤ 401) := fun h => by
    have e : tmS (stL C S P) (endT C S P) = tuL C S P := tm_sort h
    rw [e]
    have := (pcErr_ok h).2.1
    have := (tm_ends h).2.2.2.2
    exact ⟨by unfold snL; rw [if_pos h], by omega⟩
  have HZ : Hid (pcErr C S P ≠ 0 → snL C S P = []) := snL_none
  have HPOS := Lib.hid (tmS_pos (stL C S P) (endT C S P))
  obtain ⟨i0, ii1, ii2, ii3, ii4⟩ := info_parts (show (Try.prog.info? 49).map (fun i => (i.zero, i.size, i.bytes)) = some (some (.agg #[.int .i64 0, .int .i64 0, .slice none 0 0]), 3, 40) by kernel_rfl)
  clear hP hst
  have HTU := Lib.hid (fun A n c w hA hn hl => turns_any A n c (stL C S P) (endT C S P) w hA hn hl)
  generalize snL C S P = U at *
  generalize stL C S P = T at *
  generalize endT C S P = en at *
  generalize pcErr C S P = X at *
  by_cases hX : X = 0
  · subst hX
    have HT1 := Lib.hid (HT.out rfl).1
    have HT2 := Lib.hid (HT.out rfl).2
    clear HT HZ
    generalize tmS T en = V at *
    go_enter Try.func12, Try.ntmps12
    go_wp2_with (first
      | (go_at_call 29; refine HSG.out.mono ?_; rintro e w1 ⟨B, n1, d, rfl, hn1, hs1, hb1⟩; have HN1 := Lib.hid hn1; have HS1 := Lib.hid hs1; have HB1 := Lib.hid hb1; clear hn1 hs1 hb1)
      | (go_at_call 30; refine (HTU.out B n1 d _ HS1.out HN1.out (by have := HN1.out; have := HSL.out; omega)).mono ?_; rintro e w2 ⟨B2, m2, d2, rfl, hm2, hs2, hb2⟩; have HM2 := Lib.hid hm2; have HS2 := Lib.hid hs2; have HB2 := Lib.hid hb2; have hmp : (1 : Int) ≤ (m2 : Int) := (by have := HM2.out; have := HPOS.out; omega); have hmd : m2 ≤ d2 := HS2.out.1; have hmd2 : (m2 : Int) ≤ (d2 : Int) := (by omega); obtain ⟨tb, to, rfl, htb, htc⟩ := HS2.out.2.2 (by omega); have HTC := Lib.hid htc; have HTB := Lib.hid htb; clear hm2 hs2 hb2 htc htb))
    · have hm1 : m2 = 1 := by omega
      have HUZ : Hid (U = []) := by
        have h1 := HT1.out
        have h2 : U.length = 0 := by rw [h1, snOf_len]; have := HM2.out; omega
        exact List.length_eq_zero_iff.1 h2
      subst hm1
      refine wp_loop_rounds 1 ?_
      rw [rounds_succ]
      go_wp2_with (fail)
      go_ret2
      exact ⟨none, 0, 0, [], rfl, by rw [HUZ.out]; rfl, World.ownsRow_nil _ _ _ _, by rw [HUZ.out]; exact CpS.nil _ _, bx (bt HB1.out HB2.out)⟩
    · have hm2b : m2 ≤ 401 := by have := HM2.out; have := HT2.out; omega
      have HUL : Hid (U.length = m2 - 1) := by unfold Hid; rw [HT1.out, snOf_len, ← HM2.out]
      obtain ⟨r, hr⟩ : ∃ r, m2 - 1 = r := ⟨_, rfl⟩
      have HR2 : Hid (m2 = r + 1) := by unfold Hid; omega
      have hrb : r ≤ 400 := by omega
      rw [hr] at HUL
      have HBW : Hid (Below w1.heap.size w1 w2) := HB2
      rw [hr]
      clear hr
      go_loopw [26, 8, 9, 10] (fun i l _ _ wr => ∃ (k : Nat) (Z : List SnT) (A1 : Option Addr) (c1 : Nat), k ≤ r ∧ i = .int .i64 k ∧ l = .slice A1 k c1 ∧ Own1 w2 wr 49 3 A1 k c1 (snC Z) ∧ CpS wr w2.heap.size Z (U.take k)) (fun i _ _ _ _ => r - (intOf i).toNat)
      case atStart => exact ⟨0, [], none, 0, by omega, rfl, rfl, Own1.start (Below.refl _ _) _ _, CpS.nil _ _⟩
      case round =>
        obtain ⟨k, Z, A1, c1, hk, rfl, rfl, hO, hC⟩ := hrel
        have HO := Lib.hid hO
        have HC := Lib.hid hC
        clear hO hC
        by_cases hlt : k < r
        · have hkr : (k : Int) < (r : Int) := by omega
          have HAT : Hid (U.getD k zSn = ⟨V.getD k 0, V.getD (k + 1) 0, psL T (V.getD k 0)⟩) := by
            unfold Hid
            rw [List.getD_eq_getElem?_getD, HT1.out, snOf_at T V (by have := HM2.out; have := HR2.out; omega)]
            rfl
          have HTA := Lib.hid (take_snoc_sn (L := U) (k := k) (by have := HUL.out; omega))
          have q0 := cell_same ((HO.out.low).block tb HTB.out) (HTC.out _ _ (intC_at V (k + 1) (by have := HM2.out; have := HR2.out; omega)))
          have HQ : Hid (∀ w', Below w2.heap.size w2 w' → w'.cell? ⟨tb, to + k, none⟩ = some (.int .i64 (V.getD k 0))) := fun w' hb => cell_same (hb.block tb HTB.out) (HTC.out _ _ (intC_at V k (by have := HM2.out; have := HR2.out; omega)))
          rw [show to + (k + 1) = to + 1 + k by omega] at q0
          generalize V.getD k 0 = x1 at *
          generalize V.getD (k + 1) 0 = x2 at *
          generalize U.getD k zSn = y at *
          have hk1 : (k : Int) < (m2 : Int) := by have := HR2.out; omega
          have hml : k + 1 ≤ maxLen := Nat.le_trans (show k + 1 ≤ 100000 by omega) (by decide)
          have HWD : Hid (Below w2.heap.size w2 wr.drew) := HO.out.low.drew
          go_wp2_with (fail)
          go_region_held_law (fun w' => w'.cell? ⟨tb, to + k, none⟩ = some (.int .i64 x1))
            (first | exact HQ.out _ hO7.low | exact HQ.out _ ((bt HWD.out hb6).alloc (bt HWD.out hb6).size _) | exact HQ.out _ (bt HWD.out hb6) | exact HQ.out _ HWD.out)
            (first
              | (go_at_call 31; refine (pitchesAt_own B n1 d T x1 _ (HS1.out.below (bt HBW.out HWD.out)) HN1.out (by have := HN1.out; have := HSL.out; omega) HSO.out).mono ?_; rintro e w6 ⟨B6, m6, d6, rfl, hm6, ho6, hb6⟩; have HM6 := Lib.hid (And.intro hm6 ho6); clear hm6 ho6)
              | (refine step_append_lies _ (by rfl) _ _ _ (by rfl) w2.heap.size 49 i0 _ 3 40 Try.underlying37 ii1 ii2 ii3 ii4 rfl (by decide) (.slice A1 k c1) k (snC Z) (by rfl) ((own_below HO.out.own (bt (Below.refl _ _).drew hb6)).alloc (.cells #[.int .i64 x1, .int .i64 x2, .slice B6 m6 d6] 49)) ⟨w6.heap.size, 0, none⟩ 1 1 [.int .i64 x1, .int .i64 x2, .slice B6 m6 d6] (by rfl) rfl (World.news_of_block (cs := #[.int .i64 x1, .int .i64 x2, .slice B6 m6 d6]) (t := 49) (fr := (0, 0)) (heap_alloc_new w6 _)) (oneS3 _ _ _ _ _) (by decide) hml (by omega) (by have h1 := (bt HWD.out hb6).size; simp; omega) (w6.heap.size + 1) (by simp) ?_; intro g cap w7 hown7 hgrow hat hlt7; obtain ⟨_, _, _, _, hkeep⟩ := Own1.step (HO.out.below (bt (Below.refl _ _).drew hb6)) (Below.refl _ _) rfl hown7 hgrow; obtain ⟨_, _, hsl, hO7, _⟩ := Own1.step HO.out (bt (Below.refl _ _).drew hb6) rfl hown7 hgrow; cases hsl))
          all_goals (
            have HO7 : Hid (Own1 w2 w7 49 3 (some ⟨g, 0, none⟩) (k + 1) cap (snC (Z ++ [⟨x1, x2, B6, m6, d6⟩]))) := by
              unfold Hid
              rw [snC_snoc]
              exact hO7
            have HC7 : Hid (CpS w7 w2.heap.size (Z ++ [⟨x1, x2, B6, m6, d6⟩]) (U.take (k + 1))) := by
              unfold Hid
              rw [HTA.out, HAT.out]
              refine CpS.snoc (HC.out.blk (fun g cs h => hkeep g _ cs (by decide) (h.below (bt (Below.refl _ _).drew hb6)))) ⟨rfl, rfl, HM6.out.1⟩ ?_
              exact (HM6.out.2.blk (fun g cs h => hkeep g _ cs (by decide) h)).more HWD.out.size
            clear hO7 hkeep hown7 hgrow hat
            go_wp2_with (fail)
            go_roundw
            case rel => exact ⟨k + 1, _, _, cap, by omega, by first | rfl | go_num, rfl, HO7.out, HC7.out⟩
            case measure => simp [intOf]; omega)
        · obtain rfl : k = r := by omega
          have HTK : Hid (U.take k = U) := by unfold Hid; rw [← HUL.out, List.take_length]
          go_wp2_with (fail)
          go_ret2
          have hbz : Below w.heap.size w w2 := bx (bt HB1.out HB2.out)
          refine ⟨A1, k, c1, Z, rfl, HUL.out.symm, ownsRow_base HO.out.own hbz.size, ?_, bt hbz HO.out.low⟩
          have := HC.out
          rw [HTK.out] at this
          exact this.more hbz.size
  · have hXb : (X != 0) = true := by simpa using hX
    have HUZ : Hid (U = []) := HZ.out hX
    clear hX HZ HT HTU
    go_enter Try.func12, Try.ntmps12
    go_wp2_with (go_at_call 29; refine HSG.out.mono ?_; rintro e w1 ⟨B, n1, d, rfl, hn1, hs1, hb1⟩; clear hn1 hs1)
    go_ret2
    exact ⟨none, 0, 0, [], rfl, by rw [HUZ.out]; rfl, World.ownsRow_nil _ _ _ _, by rw [HUZ.out]; exact CpS.nil _ _, bx hb1⟩

end Go.Proofs.Ytpcehgifpajmbaa
