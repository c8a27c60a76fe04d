/- Sound: what is down, open or silent on each course at each event (plain lists). -/
import Derived.Test.YtpcehgifpajmbaaApart
import Derived.Test.YtpcehgifpajmbaaSndAt2
namespace Go.Proofs.Ytpcehgifpajmbaa
open Go Go.RowKit

/-- What a course does at a time: the fret of its note that sounds, or -1. -/
def crsM (c t : Int) (x : Nt) : Bool := decide (x.c = c) && sndB x t
def crsV (T : List Py) (t c : Int) : Int := match T.find? (fun x => crsM c t x.t) with
  | some x => x.f
  | none => -1
def crsRow (T : List Py) (n : Nat) (t : Int) : List Int := (List.range n).map fun (i : Nat) => crsV T t ((i : Int) + 1)
def crsL (C : List Cr) (S : List Int) (P : List EvP) : List (List Int) := if pcErr C S P = 0 then (List.range P.length).map fun k => crsRow (pyL C S P) C.length (onAt (onsL C S P) k) else []
theorem crsRow_len (T : List Py) (n : Nat) (t : Int) : (crsRow T n t).length = n := by simp [crsRow]
theorem crsL_len {C : List Cr} {S : List Int} {P : List EvP} (h : pcErr C S P = 0) : (crsL C S P).length = P.length := by unfold crsL; rw [if_pos h]; simp
theorem crsL_none {C : List Cr} {S : List Int} {P : List EvP} (h : pcErr C S P ≠ 0) : crsL C S P = [] := by unfold crsL; rw [if_neg h]

/-- The last stop of a course so far. -/
def lastC (a : List Py) (c : Int) : Py := (a.filter fun x => decide (x.t.c = c)).getLastD zPy
theorem lastC_snoc (a : List Py) (x : Py) (c : Int) : lastC (a ++ [x]) c = if x.t.c = c then x else lastC a c := by
  unfold lastC
  rw [List.filter_append]
  by_cases h : x.t.c = c
  · rw [if_pos h, List.filter_cons, if_pos (by simpa using h)]
    simp
  · rw [if_neg h, List.filter_cons, if_neg (by simpa using h)]
    simp
theorem crsV_snoc (a : List Py) (x : Py) (t c : Int) : crsV (a ++ [x]) t c = if (a.find? fun x => crsM c t x.t).isSome then crsV a t c else if crsM c t x.t then x.f else -1 := by
  unfold crsV
  rw [List.find?_append]
  cases h : a.find? (fun x => crsM c t x.t) with
  | some y => simp
  | none =>
    simp only [Option.none_or, List.find?_cons, List.find?_nil, Option.isSome_none, Bool.false_eq_true, if_false]
    cases crsM c t x.t <;> simp
theorem crsV_rest {a r : List Py} {t c : Int} (h : ∀ x ∈ r, t < x.t.fm) : crsV (a ++ r) t c = crsV a t c := by
  unfold crsV
  rw [List.find?_append]
  have : r.find? (fun x => crsM c t x.t) = none := by
    rw [List.find?_eq_none]
    intro x hx
    have := h x hx
    simp [crsM, sndB]
    intros
    omega
  rw [this, Option.or_none]
theorem rev_ind {α : Type} {p : List α → Prop} (h0 : p []) (h1 : ∀ a x, p a → p (a ++ [x])) (l : List α) : p l := by
  have : ∀ r : List α, p r.reverse := by
    intro r
    induction r with
    | nil => exact h0
    | cons x r ih => rw [List.reverse_cons]; exact h1 _ _ ih
  have := this l.reverse
  rwa [List.reverse_reverse] at this
theorem crs_last0 (t c : Int) (a : List Py) : (a.Pairwise fun x z => ApB x.t z.t) → (∀ x ∈ a, x.t.fm ≤ t) → (if sndB (lastC a c).t t then (lastC a c).f else -1) = crsV a t c := by
  refine rev_ind (p := fun a => (a.Pairwise fun x z => ApB x.t z.t) → (∀ x ∈ a, x.t.fm ≤ t) → (if sndB (lastC a c).t t then (lastC a c).f else -1) = crsV a t c) ?_ ?_ a
  · intro _ _
    have : sndB (lastC [] c).t t = false := by
      simp [lastC, zPy, zNt, sndB]
    rw [this]
    rfl
  · intro a x ih hp hf
    rw [List.pairwise_append] at hp
    have ih := ih hp.1 (fun y hy => hf y (List.mem_append_left _ hy))
    rw [lastC_snoc, crsV_snoc]
    by_cases hc : x.t.c = c
    · rw [if_pos hc]
      have hn : a.find? (fun y => crsM c t y.t) = none := by
        rw [List.find?_eq_none]
        intro y hy
        have h1 := hp.2.2 y hy x (List.mem_singleton.2 rfl)
        have h2 := hf x (by simp)
        unfold ApB at h1
        simp [crsM, sndB]
        intro h3 h4
        have := h1 (by omega)
        omega
      rw [hn]
      simp [crsM, hc]
    · rw [if_neg hc, ih]
      cases hs : (a.find? fun y => crsM c t y.t) with
      | some y => simp
      | none =>
        have : crsV a t c = -1 := by unfold crsV; rw [hs]
        rw [this]
        simp [crsM, hc]
/-- What the program reads off the last stop of each course is what sounds. -/
theorem crs_last {T a r : List Py} {t : Int} (c : Int) (hT : T = a ++ r) (hp : T.Pairwise fun x z => ApB x.t z.t) (ha : ∀ x ∈ a, x.t.fm ≤ t) (hr : ∀ x ∈ r, t < x.t.fm) : (if sndB (lastC a c).t t then (lastC a c).f else -1) = crsV T t c := by
  subst hT
  rw [crsV_rest hr]
  exact crs_last0 t c a (List.pairwise_append.1 hp).1 ha

theorem foldl_const {α : Type} (m : α → Bool) (g : α → Int) (v : Int) : ∀ (L : List α) (n0 : Int), (∀ y ∈ L, m y = true → g y = v) → L.foldl (fun n y => if m y then g y else n) n0 = if L.any m then v else n0
  | [], _, _ => by simp
  | y :: r, n0, h => by
    rw [List.foldl_cons, foldl_const m g v r _ (fun z hz => h z (List.mem_cons_of_mem _ hz))]
    cases hm : m y with
    | true => simp [hm, h y (List.mem_cons_self ..) hm]
    | false => simp [hm]
/-- What the reference finds: all notes, then all presses. -/
def nG (c t : Int) (U : List Nt) : Int := U.foldl (fun n x => if crsM c t x then 0 else n) (-1)
def prG (c t n0 : Int) (V : List Nt) : Int := V.foldl (fun n x => if crsM c t x then x.p else n) n0
theorem crs_ref {T : List Py} (c t : Int) (hp : T.Pairwise fun x z => ApB x.t z.t) (hf : ∀ x ∈ T, 0 ≤ x.f) : prG c t (nG c t (T.map fun x => x.t)) (T.flatMap gPr) = crsV T t c := by
  unfold prG nG
  rw [foldl_const (fun x => crsM c t x) (fun _ => 0) 0 _ _ (fun _ _ _ => rfl)]
  cases hs : T.find? (fun y => crsM c t y.t) with
  | none =>
    have hn := List.find?_eq_none.1 hs
    have h1 : (T.map fun x => x.t).any (fun x => crsM c t x) = false := by
      rw [List.any_eq_false]
      intro x hx
      obtain ⟨y, hy, rfl⟩ := List.mem_map.1 hx
      exact hn y hy
    have h2 : (T.flatMap gPr).any (fun x => crsM c t x) = false := by
      rw [List.any_eq_false]
      intro x hx
      obtain ⟨y, hy, hxy⟩ := List.mem_flatMap.1 hx
      have hny := hn y hy
      unfold gPr at hxy
      split at hxy
      · obtain rfl : x = ⟨y.t.ev, y.t.c, y.f, y.t.fm, y.t.to⟩ := by simpa using hxy
        exact hny
      · cases hxy
    rw [h1, foldl_const (fun x => crsM c t x) (fun x => x.p) 0 _ _ (fun y hy hm => by
      have := (List.any_eq_false.1 h2) y hy
      exact absurd hm this), h2]
    unfold crsV
    rw [hs]
    rfl
  | some x =>
    have hxm := List.find?_some hs
    have hxT := List.mem_of_find?_eq_some hs
    have huni : ∀ y ∈ T, crsM c t y.t = true → y = x := by
      intro y hy hm
      obtain ⟨i, hi, rfl⟩ := List.getElem_of_mem hy
      obtain ⟨j, hj, rfl⟩ := List.getElem_of_mem hxT
      have hs1 : ∀ k (hk : k < T.length), crsM c t T[k].t = true → T[k].t.c = c ∧ T[k].t.fm ≤ t ∧ t < T[k].t.to := by
        intro k hk h
        simpa [crsM, sndB] using h
      obtain ⟨a1, a2, a3⟩ := hs1 i hi hm
      obtain ⟨b1, b2, b3⟩ := hs1 j hj hxm
      rcases Nat.lt_trichotomy i j with h | h | h
      · have := List.pairwise_iff_getElem.1 hp i j hi hj h
        unfold ApB at this
        have := this (by rw [a1, b1])
        omega
      · subst h; rfl
      · have := List.pairwise_iff_getElem.1 hp j i hj hi h
        unfold ApB at this
        have := this (by rw [a1, b1])
        omega
    have h1 : (T.map fun x => x.t).any (fun x => crsM c t x) = true := by
      rw [List.any_eq_true]
      exact ⟨x.t, List.mem_map.2 ⟨x, hxT, rfl⟩, hxm⟩
    rw [h1, if_pos rfl, foldl_const (fun x => crsM c t x) (fun x => x.p) x.f _ _ (fun y hy hm => by
      obtain ⟨z, hz, hyz⟩ := List.mem_flatMap.1 hy
      unfold gPr at hyz
      split at hyz
      · obtain rfl : y = ⟨z.t.ev, z.t.c, z.f, z.t.fm, z.t.to⟩ := by simpa using hyz
        rw [← huni z hz hm]
      · cases hyz)]
    have hv : crsV T t c = x.f := by unfold crsV; rw [hs]
    rw [hv]
    by_cases h0 : 0 < x.f
    · have h2 : (T.flatMap gPr).any (fun x => crsM c t x) = true := by
        rw [List.any_eq_true]
        refine ⟨⟨x.t.ev, x.t.c, x.f, x.t.fm, x.t.to⟩, List.mem_flatMap.2 ⟨x, hxT, ?_⟩, hxm⟩
        unfold gPr
        rw [if_pos h0]
        simp
      rw [h2, if_pos rfl]
    · have h3 := hf x hxT
      have h4 : x.f = 0 := by omega
      rw [h4]
      split <;> rfl

/-- The stops of the events ahead of k, and those from k on. -/
def pyTo (C : List Cr) (S : List Int) (P : List EvP) (O : List Int) (k : Nat) : List Py := pyGo C S P O 0 (P.take k)
theorem pyGo_append {C : List Cr} {S : List Int} {P : List EvP} {O : List Int} : ∀ (A B : List EvP) (i : Nat), pyGo C S P O i (A ++ B) = pyGo C S P O i A ++ pyGo C S P O (i + A.length) B
  | [], B, i => by simp [pyGo]
  | y :: r, B, i => by
    rw [List.cons_append, pyGo, pyGo, pyGo_append r B (i + 1), List.append_assoc, List.length_cons, show i + 1 + r.length = i + (r.length + 1) by omega]
theorem pyTo_zero {C : List Cr} {S : List Int} {P : List EvP} {O : List Int} : pyTo C S P O 0 = [] := by simp [pyTo, pyGo]
theorem pyTo_succ {C : List Cr} {S : List Int} {P : List EvP} {O : List Int} {k : Nat} (hk : k < P.length) : pyTo C S P O (k + 1) = pyTo C S P O k ++ pyEv C S P O k (P.getD k z6).L := by
  have e : P.take (k + 1) = P.take k ++ [P.getD k z6] := by rw [List.take_add_one]; simp [List.getElem?_eq_getElem hk]
  unfold pyTo
  rw [e, pyGo_append, List.length_take, Nat.min_eq_left (by omega), Nat.zero_add]
  simp [pyGo]
theorem pyTo_all {C : List Cr} {S : List Int} {P : List EvP} {O : List Int} (k : Nat) : pyGo C S P O 0 P = pyTo C S P O k ++ pyGo C S P O k (P.drop k) := by
  by_cases hk : k ≤ P.length
  · have := pyGo_append (C := C) (S := S) (P := P) (O := O) (P.take k) (P.drop k) 0
    rw [List.take_append_drop, List.length_take, Nat.min_eq_left hk, Nat.zero_add] at this
    exact this
  · have : P.drop k = [] := List.drop_of_length_le (by omega)
    rw [this]
    unfold pyTo
    rw [List.take_of_length_le (by omega)]
    simp [pyGo]
/-- The row at event k, read off the last stops. -/
theorem crs_row {C : List Cr} {S : List Int} {P : List EvP} (h : pcErr C S P = 0) {k : Nat} (hk : k < P.length) :
    crsRow (pyL C S P) C.length (onAt (onsL C S P) k) = (List.range C.length).map fun (i : Nat) => if sndB (lastC (pyTo C S P (onsL C S P) (k + 1)) ((i : Int) + 1)).t (onAt (onsL C S P) k) then (lastC (pyTo C S P (onsL C S P) (k + 1)) ((i : Int) + 1)).f else -1 := by
  have hT : pyL C S P = pyTo C S P (onsL C S P) (k + 1) ++ pyGo C S P (onsL C S P) (k + 1) (P.drop (k + 1)) := by
    unfold pyL
    rw [if_pos h]
    exact pyTo_all (k + 1)
  have hp : (pyL C S P).Pairwise fun x z => ApB x.t z.t := by
    unfold pyL
    rw [if_pos h]
    exact pyGo_apart h P 0 rfl
  unfold crsRow
  refine List.map_congr_left fun i _ => ?_
  refine (crs_last ((i : Int) + 1) hT hp (fun x hx => ?_) (fun x hx => ?_)).symm
  · obtain ⟨j, y, s, hj, _, rfl⟩ := pyGo_mem _ 0 hx
    have hjl := (List.getElem?_eq_some_iff.1 hj).1
    rw [List.length_take] at hjl
    rw [Nat.zero_add]
    have := (ons_rise h j (k - j) (by omega)).1
    rw [show j + (k - j) = k by omega] at this
    exact this
  · obtain ⟨j, y, s, hj, _, rfl⟩ := pyGo_mem _ (k + 1) hx
    have hjl := (List.getElem?_eq_some_iff.1 hj).1
    rw [List.length_drop] at hjl
    have := (ons_rise h k (j + 1) (by omega)).2 (by omega)
    rw [show k + (j + 1) = k + 1 + j by omega] at this
    exact this
/-- The row at event k, as the reference finds it. -/
theorem crs_rowR {C : List Cr} {S : List Int} {P : List EvP} (h : pcErr C S P = 0) (t : Int) (i : Nat) : prG ((i : Int) + 1) t (nG ((i : Int) + 1) t (ntL C S P)) (prL C S P) = crsV (pyL C S P) t ((i : Int) + 1) := by
  refine crs_ref ((i : Int) + 1) t ?_ (fun x hx => ?_)
  · unfold pyL
    rw [if_pos h]
    exact pyGo_apart h P 0 rfl
  · obtain ⟨_, j, y, s, _, _, hok, rfl⟩ := pyL_mem hx
    exact hok.f1

theorem onsL_q {C : List Cr} {S : List Int} {P : List EvP} (h : pcErr C S P = 0) : (onsL C S P).length = P.length + 1 := by unfold onsL; rw [if_pos h]; simp [sumL_len, frcL_len]

/-- The last stops of all 14 courses, one behind another. -/
def dnL (a : List Py) : List Py := (List.range 14).map fun (i : Nat) => lastC a ((i : Int) + 1)
theorem dnL_len (a : List Py) : (dnL a).length = 14 := by simp [dnL]
theorem dnL_at (a : List Py) {i : Nat} (hi : i < 14) : (dnL a).getD i zPy = lastC a ((i : Int) + 1) := by
  unfold dnL
  simp [List.getD_eq_getElem?_getD, hi]
theorem dnL_snoc (a : List Py) (x : Py) {i : Nat} (hi : i < 14) : (dnL (a ++ [x])).getD i zPy = if x.t.c = (i : Int) + 1 then x else (dnL a).getD i zPy := by
  rw [dnL_at _ hi, dnL_at _ hi, lastC_snoc]
theorem dnL_set (a : List Py) (x : Py) (cn : Nat) (hx : x.t.c = (cn : Int) + 1) : dnL (a ++ [x]) = (dnL a).set cn x := by
  refine List.ext_getElem? fun i => ?_
  by_cases hi : i < 14
  · have e1 := dnL_snoc a x hi
    rw [List.getElem?_set]
    have l1 : (dnL (a ++ [x]))[i]? = some ((dnL (a ++ [x])).getD i zPy) := by simp [List.getD_eq_getElem?_getD, List.getElem?_eq_getElem (show i < (dnL (a ++ [x])).length by rw [dnL_len]; exact hi)]
    have l2 : (dnL a)[i]? = some ((dnL a).getD i zPy) := by simp [List.getD_eq_getElem?_getD, List.getElem?_eq_getElem (show i < (dnL a).length by rw [dnL_len]; exact hi)]
    rw [l1, l2, e1, dnL_len]
    by_cases hc : cn = i
    · subst hc
      rw [if_pos hx, if_pos rfl, if_pos hi]
    · rw [if_neg (by omega), if_neg hc]
  · rw [List.getElem?_eq_none (by rw [dnL_len]; omega), List.getElem?_eq_none (by rw [List.length_set, dnL_len]; omega)]

end Go.Proofs.Ytpcehgifpajmbaa
