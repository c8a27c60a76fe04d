/- Sound: no two notes of one course sound at one time (plain lists). -/
import Derived.Test.YtpcehgifpajmbaaSndRG
namespace Go.Proofs.Ytpcehgifpajmbaa
open Go Go.RowKit

/-- The onsets rise. -/
theorem sumL_rise : ∀ (F : List Sg) (a : Int), (∀ s ∈ F, 0 < tkS s) → ∀ (i : Nat), i < F.length → (a :: sumL a F).getD i 0 < (a :: sumL a F).getD (i + 1) 0
  | [], _, _, i, hi => by simp at hi
  | s :: F, a, h, 0, _ => by
    have := h s (List.mem_cons_self ..)
    simp [sumL]
    omega
  | s :: F, a, h, i + 1, hi => by
    have := sumL_rise F (a + tkS s) (fun x hx => h x (List.mem_cons_of_mem _ hx)) i (by simpa using hi)
    simpa [sumL] using this
theorem rise_lt {O : List Int} (h : ∀ i, i + 1 < O.length → onAt O i < onAt O (i + 1)) : ∀ (i d : Nat), i + d < O.length → onAt O i ≤ onAt O (i + d) ∧ (0 < d → onAt O i < onAt O (i + d))
  | i, 0, _ => ⟨by simp, fun h => by omega⟩
  | i, d + 1, hl => by
    obtain ⟨h1, _⟩ := rise_lt h i d (by omega)
    have h2 := h (i + d) (by omega)
    rw [show i + d + 1 = i + (d + 1) by omega] at h2
    exact ⟨by omega, fun _ => by omega⟩
theorem tkV_pos {v : Int} {d t : Bool} (h : okB v d t = true) : 0 < tkV v d t := by
  unfold tkV
  rw [if_pos h]
  have : tbase v = 384 ∨ tbase v = 192 ∨ tbase v = 96 ∨ tbase v = 48 ∨ tbase v = 24 ∨ tbase v = 12 ∨ tbase v = 6 := by
    unfold tbase
    split
    · omega
    split
    · omega
    split
    · omega
    split
    · omega
    split
    · omega
    split <;> omega
  split
  · omega
  split <;> omega
theorem frc_ok : ∀ (R : List EvP) (k : Nat) (s : Sg), (k = 0 ∨ okB s.v s.d s.t = true) → (∀ (j : Nat) (y : EvP), R[j]? = some y → sgnB (k + j) y = false) → ∀ f ∈ frcL s R, okB f.v f.d f.t = true
  | [], _, _, _, _, f, hf => by simp [frcL] at hf
  | y :: r, k, s, h0, h, f, hf => by
    have hy := h 0 y rfl
    rw [Nat.add_zero] at hy
    have hw := sgn_wr hy
    have hs : okB (sgF y s).v (sgF y s).d (sgF y s).t = true := by
      unfold sgF
      by_cases hv : y.v = 0
      · rw [if_pos hv]
        rcases h0 with h0 | h0
        · rw [h0] at hy
          unfold sgnB at hy
          rw [hw] at hy
          simp [hv] at hy
        · exact h0
      · rw [if_neg hv]
        unfold sgnB at hy
        rw [hw] at hy
        simpa [hv] using hy
    rw [frcL] at hf
    rcases List.mem_cons.1 hf with rfl | hf
    · exact hs
    · exact frc_ok r (k + 1) (sgF y s) (.inr hs) (fun j z hz => by have := h (j + 1) z (by simpa using hz); rwa [show k + 1 + j = k + (j + 1) by omega]) f hf
theorem ons_rise {C : List Cr} {S : List Int} {P : List EvP} (h : pcErr C S P = 0) : ∀ i d, i + d ≤ P.length → onAt (onsL C S P) i ≤ onAt (onsL C S P) (i + d) ∧ (0 < d → onAt (onsL C S P) i < onAt (onsL C S P) (i + d)) := by
  have hl : (onsL C S P).length = P.length + 1 := by unfold onsL; rw [if_pos h]; simp [sumL_len, frcL_len]
  intro i d hd
  refine rise_lt (fun j hj => ?_) i d (by omega)
  unfold onAt onsL
  rw [if_pos h]
  refine sumL_rise (frcL s0g P) 0 (fun s hs => ?_) j (by rw [frcL_len]; omega)
  exact tkV_pos (frc_ok P 0 s0g (.inl rfl) (fun k y hy => by rw [Nat.zero_add]; exact ((pcErr_ok h).2.2 k y hy).1) s hs)

theorem opGo_le (c : Int) : ∀ (r : List EvP) (j m : Nat) (y : EvP), r[m]? = some y → hsB y.L c = true → opGo c r j ≤ j + m
  | [], _, m, y, h, _ => by simp at h
  | x :: r, j, 0, y, h, hs => by
    obtain rfl : x = y := by simpa using h
    rw [opGo, if_pos (.inr hs)]
    omega
  | x :: r, j, m + 1, y, h, hs => by
    unfold opGo
    split
    · omega
    · have := opGo_le c r (j + 1) m y (by simpa using h) hs
      omega
theorem lgGo_le2 (c : Int) : ∀ (r : List EvP) (h0 m : Nat) (y : EvP), r[m]? = some y → hsB y.L c = true → lgGo c r h0 ≤ h0 + m
  | [], _, m, y, h, _ => by simp at h
  | x :: r, h0, 0, y, h, hs => by
    obtain rfl : x = y := by simpa using h
    rw [lgGo, if_pos (.inr (.inr hs))]
    omega
  | x :: r, h0, m + 1, y, h, hs => by
    unfold lgGo
    split
    · omega
    · have := lgGo_le2 c r (h0 + 1) m y (by simpa using h) hs
      omega
theorem tiGo_le : ∀ (r : List EvP) (j m : Nat) (y : EvP), r[m]? = some y → y.tie = false → tiGo r j ≤ j + m
  | [], _, m, y, h, _ => by simp at h
  | x :: r, j, 0, y, h, ht => by
    obtain rfl : x = y := by simpa using h
    rw [tiGo, if_neg (by rw [ht]; simp)]
    omega
  | x :: r, j, m + 1, y, h, ht => by
    unfold tiGo
    split
    · have := tiGo_le r (j + 1) m y (by simpa using h) ht
      omega
    · omega
/-- A note ends at the next event with a stop on its course, or ahead of it. -/
theorem end_le {C : List Cr} {S : List Int} {P : List EvP} (h : pcErr C S P = 0) {i b : Nat} {y z : EvP} {s : St} (hy : P[i]? = some y) (hs : s ∈ y.L) (hz : P[b]? = some z) (hib : i < b) (hc : hsB z.L s.c = true) : endN P i s ≤ b := by
  have hi : i < P.length := (List.getElem?_eq_some_iff.1 hy).1
  have hz1 : (P.drop (i + 1))[b - (i + 1)]? = some z := by rw [List.getElem?_drop, show i + 1 + (b - (i + 1)) = b by omega]; exact hz
  unfold endN
  split
  · have := opGo_le s.c (P.drop (i + 1)) (i + 1) (b - (i + 1)) z hz1 hc
    omega
  · obtain ⟨_, _, h4⟩ := (pcErr_ok h).2.2 i y hy
    obtain ⟨bf, _, h5⟩ := stsErr_mem y.L 0 h4 s hs
    obtain ⟨_, _, _, ⟨a5, a6⟩, _⟩ := stErr_ok h5
    have l2 := lgGo_le2 s.c (P.drop (i + 1)) 0 (b - (i + 1)) z hz1 hc
    rw [lgst_in hi] at a6
    have hh : i + 1 + s.h.toNat ≤ b := by omega
    have htie : z.tie = false := by
      cases ht : z.tie with
      | false => rfl
      | true =>
        have := tie_len h hz ht
        have hn : z.L = [] := List.length_eq_zero_iff.1 this
        rw [hn] at hc
        cases hc
    have hz2 : (P.drop (i + 1 + s.h.toNat))[b - (i + 1 + s.h.toNat)]? = some z := by rw [List.getElem?_drop, show i + 1 + s.h.toNat + (b - (i + 1 + s.h.toNat)) = b by omega]; exact hz
    have := tiGo_le (P.drop (i + 1 + s.h.toNat)) (i + 1 + s.h.toNat) (b - (i + 1 + s.h.toNat)) z hz2 htie
    omega
theorem sts_pair {C : List Cr} {P : List EvP} {k : Nat} : ∀ (L : List St) (bf : Int), stsErr C P k bf L = 0 → L.Pairwise (fun a b => a.c < b.c) ∧ ∀ s ∈ L, bf < s.c
  | [], _, _ => ⟨List.Pairwise.nil, fun s hs => by cases hs⟩
  | x :: r, bf, h => by
    unfold stsErr at h
    by_cases hx : stErr C P k bf x = 0
    · rw [if_pos hx] at h
      obtain ⟨h1, h2⟩ := sts_pair r x.c h
      have h3 := (stErr_ok hx).2.2.1
      refine ⟨List.pairwise_cons.2 ⟨h2, h1⟩, fun s hs => ?_⟩
      rcases List.mem_cons.1 hs with rfl | hs
      · exact h3
      · have := h2 s hs
        omega
    · rw [if_neg hx] at h; exact absurd h hx
/-- Two notes of one course, in the list's order: the first one has ended. -/
def ApB (x z : Nt) : Prop := x.c = z.c → x.to ≤ z.fm
theorem pyGo_apart {C : List Cr} {S : List Int} {P : List EvP} (h : pcErr C S P = 0) : ∀ (Q : List EvP) (i : Nat), Q = P.drop i → (pyGo C S P (onsL C S P) i Q).Pairwise fun x z => ApB x.t z.t
  | [], _, _ => List.Pairwise.nil
  | y :: r, i, hQ => by
    have hi : P[i]? = some y := by
      have := congrArg (fun l : List EvP => l[0]?) hQ
      simpa using this.symm
    have hr : r = P.drop (i + 1) := by
      have := congrArg List.tail hQ
      simpa using this
    have hil : i < P.length := (List.getElem?_eq_some_iff.1 hi).1
    rw [pyGo, List.pairwise_append]
    refine ⟨?_, pyGo_apart h r (i + 1) hr, ?_⟩
    · obtain ⟨_, _, h4⟩ := (pcErr_ok h).2.2 i y hi
      refine List.pairwise_map.2 ((sts_pair y.L 0 h4).1.imp ?_)
      intro a b hab hc
      have : a.c = b.c := hc
      omega
    · intro x hx z hz
      obtain ⟨s, hs, rfl⟩ := List.mem_map.1 hx
      obtain ⟨j, y2, s2, hj, hs2, rfl⟩ := pyGo_mem r (i + 1) hz
      intro hc
      have hc2 : s.c = s2.c := hc
      rw [hr, List.getElem?_drop] at hj
      have he := end_le h hi hs hj (by omega) (by
        unfold hsB
        rw [List.any_eq_true]
        exact ⟨s2, hs2, by simp [hc2]⟩)
      have hb : i + 1 + j < P.length := (List.getElem?_eq_some_iff.1 hj).1
      have := (ons_rise h (endN P i s) (i + 1 + j - endN P i s) (by omega)).1
      rw [show endN P i s + (i + 1 + j - endN P i s) = i + 1 + j by omega] at this
      exact this
theorem ntL_apart {C : List Cr} {S : List Int} {P : List EvP} (h : pcErr C S P = 0) : (ntL C S P).Pairwise ApB ∧ ∀ x ∈ ntL C S P, x.fm < x.to := by
  refine ⟨?_, fun x hx => ?_⟩
  · unfold ntL pyL
    rw [if_pos h]
    exact List.pairwise_map.2 (pyGo_apart h P 0 rfl)
  · obtain ⟨y, hy, rfl⟩ := List.mem_map.1 hx
    obtain ⟨_, j, z, s, hz, hs, hok, rfl⟩ := pyL_mem hy
    have hj : j < P.length := (List.getElem?_eq_some_iff.1 hz).1
    have hb := endN_bd hj hok
    have := (ons_rise h j (endN P j s - j) (by omega)).2 (by omega)
    rw [show j + (endN P j s - j) = endN P j s by omega] at this
    exact this
/-- Two of them, by their numbers. -/
theorem apart_at {C : List Cr} {S : List Int} {P : List EvP} (h : pcErr C S P = 0) {i k : Nat} (hk : k < i) (hi : i < (ntL C S P).length) :
    (ntL C S P |>.getD i zNt).fm < (ntL C S P |>.getD i zNt).to ∧ ((ntL C S P |>.getD i zNt).c = (ntL C S P |>.getD k zNt).c → ¬ (ntL C S P |>.getD i zNt).fm < (ntL C S P |>.getD k zNt).to) := by
  obtain ⟨h1, h2⟩ := ntL_apart h
  have ei : (ntL C S P).getD i zNt = (ntL C S P)[i] := by simp [List.getElem?_eq_getElem hi]
  have ek : (ntL C S P).getD k zNt = (ntL C S P)[k] := by simp [List.getElem?_eq_getElem (show k < (ntL C S P).length by omega)]
  rw [ei, ek]
  refine ⟨h2 _ (List.getElem_mem hi), fun hc => ?_⟩
  have := List.pairwise_iff_getElem.1 h1 k i (by omega) hi hk hc.symm
  omega
/-- A press has its note. -/
theorem press_note {C : List Cr} {S : List Int} {P : List EvP} {x : Nt} (hx : x ∈ prL C S P) : 1 ≤ x.p ∧ ∃ k, k < (ntL C S P).length ∧ (ntL C S P |>.getD k zNt).ev = x.ev ∧ (ntL C S P |>.getD k zNt).c = x.c ∧ (ntL C S P |>.getD k zNt).fm = x.fm ∧ (ntL C S P |>.getD k zNt).to = x.to := by
  obtain ⟨y, hy, hxy⟩ := List.mem_flatMap.1 hx
  unfold gPr at hxy
  split at hxy
  · rename_i hf
    obtain rfl : x = ⟨y.t.ev, y.t.c, y.f, y.t.fm, y.t.to⟩ := by simpa using hxy
    have hm : y.t ∈ ntL C S P := List.mem_map.2 ⟨y, hy, rfl⟩
    obtain ⟨k, hk, e⟩ := List.getElem_of_mem hm
    have e2 : (ntL C S P).getD k zNt = y.t := by rw [← e]; simp [List.getElem?_eq_getElem hk]
    refine ⟨hf, k, hk, ?_⟩
    rw [e2]
    exact ⟨rfl, rfl, rfl, rfl⟩
  · cases hxy
def frN (L : List St) : Nat := (L.filter fun s => decide (0 < s.f)).length
def cntS (P : List EvP) : Nat := (P.map fun y => y.L.length).sum
def cntF (P : List EvP) : Nat := (P.map fun y => frN y.L).sum
theorem ev_cnt {C : List Cr} {S : List Int} {P : List EvP} {O : List Int} {i : Nat} : ∀ (L : List St), ((pyEv C S P O i L).flatMap gPr).length = frN L
  | [] => rfl
  | s :: r => by
    have := ev_cnt (C := C) (S := S) (P := P) (O := O) (i := i) r
    simp only [pyEv, List.map_cons, List.flatMap_cons, List.length_append] at this ⊢
    rw [this]
    unfold frN gPr
    by_cases hf : 0 < s.f
    · rw [if_pos (show 0 < (pyOf C S P O i s).f from hf), List.filter_cons, if_pos (by simpa using hf)]
      simp
      omega
    · rw [if_neg (show ¬ 0 < (pyOf C S P O i s).f from hf), List.filter_cons, if_neg (by simpa using hf)]
      simp
theorem pyGo_cnt {C : List Cr} {S : List Int} {P : List EvP} {O : List Int} : ∀ (Q : List EvP) (i : Nat), (pyGo C S P O i Q).length = cntS Q ∧ ((pyGo C S P O i Q).flatMap gPr).length = cntF Q
  | [], _ => ⟨rfl, rfl⟩
  | y :: r, i => by
    obtain ⟨h1, h2⟩ := pyGo_cnt (C := C) (S := S) (P := P) (O := O) r (i + 1)
    rw [pyGo, List.flatMap_append, List.length_append, List.length_append, h1, h2, ev_cnt]
    exact ⟨by simp [pyEv, cntS], by simp [cntF]⟩
theorem cnt_all {C : List Cr} {S : List Int} {P : List EvP} (h : pcErr C S P = 0) : (ntL C S P).length = cntS P ∧ (prL C S P).length = cntF P := by
  unfold ntL prL pyL
  rw [if_pos h, List.length_map]
  exact pyGo_cnt P 0
theorem cnt_succ {P : List EvP} {k : Nat} (hk : k < P.length) : cntS (P.take (k + 1)) = cntS (P.take k) + (P.getD k z6).L.length ∧ cntF (P.take (k + 1)) = cntF (P.take k) + frN (P.getD k z6).L := by
  have e : P.take (k + 1) = P.take k ++ [P.getD k z6] := by rw [List.take_add_one]; simp [List.getElem?_eq_getElem hk]
  unfold cntS cntF
  rw [e]
  simp
theorem frN_succ {L : List St} {j : Nat} (hj : j < L.length) : frN (L.take (j + 1)) = frN (L.take j) + if 0 < (L.getD j z5).f then 1 else 0 := by
  have e : L.take (j + 1) = L.take j ++ [L.getD j z5] := by rw [List.take_add_one]; simp [List.getElem?_eq_getElem hj]
  unfold frN
  rw [e, List.filter_append, List.length_append]
  congr 1
  by_cases hf : 0 < (L.getD j z5).f
  · rw [if_pos hf, List.filter_cons, if_pos (by simpa using hf)]; rfl
  · rw [if_neg hf, List.filter_cons, if_neg (by simpa using hf)]; rfl

end Go.Proofs.Ytpcehgifpajmbaa
