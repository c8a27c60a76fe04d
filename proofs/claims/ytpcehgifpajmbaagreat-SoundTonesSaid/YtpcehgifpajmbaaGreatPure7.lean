/- Plain functions: an instrument with a capo. No program is imported here. -/
import Derived.Test.YtpcehgifpajmbaaGreatPure6
namespace Go.Proofs.YtpcehgifpajmbaaGreat

def cap1 (d k : Int) (x : Cr) : Cr := if x.f = 0 then x else ⟨x.p + d, x.f - k, x.o⟩
/-- The first b elements are turned by f. -/
def mapR (f : Cr → Cr) (C : List Cr) (b : Nat) : List Cr := (List.range C.length).map fun i => if i < b then f (C.getD i zc) else C.getD i zc
theorem mapR_len (f : Cr → Cr) (C : List Cr) (b : Nat) : (mapR f C b).length = C.length := by simp [mapR]
theorem mapR_at (f : Cr → Cr) (C : List Cr) (b i : Nat) (h : i < C.length) : (mapR f C b).getD i zc = if i < b then f (C.getD i zc) else C.getD i zc := by
  rw [getD_at _ i (by rw [mapR_len]; exact h)]
  simp [mapR]
theorem mapR_zero (f : Cr → Cr) (C : List Cr) : mapR f C 0 = C := by
  refine ext_at (mapR_len _ _ _) fun i hi => ?_
  rw [mapR_len] at hi
  rw [mapR_at _ _ _ _ hi, if_neg (by omega)]
theorem mapR_here (f : Cr → Cr) (C : List Cr) (b : Nat) (h : b < C.length) : (mapR f C b).getD b zc = C.getD b zc := by rw [mapR_at _ _ _ _ h, if_neg (by omega)]
theorem mapR_step (f : Cr → Cr) (C : List Cr) (b : Nat) : mapR f C (b + 1) = (mapR f C b).set b (f (C.getD b zc)) := by
  refine ext_at (by rw [List.length_set, mapR_len, mapR_len]) fun i hi => ?_
  rw [mapR_len] at hi
  rw [set_at _ _ _ _ (by rw [mapR_len]; exact hi), mapR_at _ _ _ _ hi, mapR_at _ _ _ _ hi]
  by_cases e : b = i
  · subst e; rw [if_pos (by omega), if_pos rfl]
  · rw [if_neg e]
    by_cases g : i < b
    · rw [if_pos (by omega), if_pos g]
    · rw [if_neg (by omega), if_neg g]
theorem map_at (f : Cr → Cr) (C : List Cr) (i : Nat) (h : i < C.length) : (C.map f).getD i zc = f (C.getD i zc) := by
  rw [getD_at _ i (by simpa using h), getD_at C i h]; simp
theorem mapR_all (f : Cr → Cr) (C : List Cr) : mapR f C C.length = C.map f := by
  refine ext_at (by rw [mapR_len, List.length_map]) fun i hi => ?_
  rw [mapR_len] at hi
  rw [mapR_at _ _ _ _ hi, if_pos hi, map_at _ _ _ hi]
theorem mapR_stay (f : Cr → Cr) (C : List Cr) (b : Nat) (h : b < C.length) (hf : f (C.getD b zc) = C.getD b zc) : mapR f C (b + 1) = mapR f C b := by
  rw [mapR_step, hf]
  refine ext_at (by simp) fun i hi => ?_
  rw [List.length_set, mapR_len] at hi
  rw [set_at _ _ _ _ (by rw [mapR_len]; exact hi)]
  by_cases e : b = i
  · subst e; rw [if_pos rfl, mapR_here _ _ _ h]
  · rw [if_neg e]

/-- The first b numbers are d lower. -/
def subR (L : List Int) (d : Int) (b : Nat) : List Int := (List.range L.length).map fun i => if i < b then L.getD i 0 - d else L.getD i 0
theorem getI_at (L : List Int) (i : Nat) (h : i < L.length) : L.getD i 0 = L[i] := by
  rw [List.getD_eq_getElem?_getD, List.getElem?_eq_getElem h]; rfl
theorem subR_len (L : List Int) (d : Int) (b : Nat) : (subR L d b).length = L.length := by simp [subR]
theorem subR_at (L : List Int) (d : Int) (b i : Nat) (h : i < L.length) : (subR L d b).getD i 0 = if i < b then L.getD i 0 - d else L.getD i 0 := by
  rw [getI_at _ i (by rw [subR_len]; exact h)]
  simp [subR]
theorem extI_at {C D : List Int} (hl : C.length = D.length) (h : ∀ i, i < C.length → C.getD i 0 = D.getD i 0) : C = D := by
  apply List.ext_getElem hl
  intro i h1 h2
  have := h i h1
  rwa [getI_at C i h1, getI_at D i h2] at this
theorem setI_at (C : List Int) (k i : Nat) (x : Int) (h : i < C.length) : (C.set k x).getD i 0 = if k = i then x else C.getD i 0 := by
  rw [getI_at _ i (by simpa using h), getI_at C i h, List.getElem_set]
theorem subR_zero (L : List Int) (d : Int) : subR L d 0 = L := by
  refine extI_at (subR_len _ _ _) fun i hi => ?_
  rw [subR_len] at hi
  rw [subR_at _ _ _ _ hi, if_neg (by omega)]
theorem subR_step (L : List Int) (d : Int) (b : Nat) : subR L d (b + 1) = (subR L d b).set b (L.getD b 0 - d) := by
  refine extI_at (by rw [List.length_set, subR_len, subR_len]) fun i hi => ?_
  rw [subR_len] at hi
  rw [setI_at _ _ _ _ (by rw [subR_len]; exact hi), subR_at _ _ _ _ hi, subR_at _ _ _ _ hi]
  by_cases e : b = i
  · subst e; rw [if_pos (by omega), if_pos rfl]
  · rw [if_neg e]
    by_cases g : i < b
    · rw [if_pos (by omega), if_pos g]
    · rw [if_neg (by omega), if_neg g]
theorem subR_here (L : List Int) (d : Int) (b : Nat) (h : b < L.length) : (subR L d b).getD b 0 = L.getD b 0 := by rw [subR_at _ _ _ _ h, if_neg (by omega)]
theorem subR_all (L : List Int) (d : Int) : subR L d L.length = L.map (· - d) := by
  refine extI_at (by rw [subR_len, List.length_map]) fun i hi => ?_
  rw [subR_len] at hi
  rw [subR_at _ _ _ _ hi, if_pos hi, getI_at (L.map (· - d)) i (by simpa using hi), getI_at L i hi]
  simp

def capOk (k : Int) (C : List Cr) : Bool := C.all fun x => decide (x.f = 0) || decide (k ≤ x.f)
theorem capOk_of {k : Int} {C : List Cr} (h : ∀ i, i < C.length → (C.getD i zc).f = 0 ∨ k ≤ (C.getD i zc).f) : capOk k C = true := by
  unfold capOk
  rw [List.all_eq_true]
  intro x hx
  obtain ⟨i, hi, rfl⟩ := List.getElem_of_mem hx
  have := h i hi
  rw [getD_at C i hi] at this
  simpa using this
theorem capOk_no {k : Int} {C : List Cr} {i : Nat} (hi : i < C.length) (h : ¬ (C.getD i zc).f = 0 ∧ (C.getD i zc).f < k) : capOk k C = false := by
  unfold capOk
  rw [List.all_eq_false]
  refine ⟨C[i], List.getElem_mem hi, ?_⟩
  rw [getD_at C i hi] at h
  simp
  omega
theorem capOk_at {k : Int} {C : List Cr} (h : capOk k C = true) {i : Nat} (hi : i < C.length) : (C.getD i zc).f = 0 ∨ k ≤ (C.getD i zc).f := by
  unfold capOk at h
  rw [List.all_eq_true] at h
  have := h C[i] (List.getElem_mem hi)
  rw [getD_at C i hi]
  simpa using this
def capE (C : List Cr) (S : List Int) (k : Int) : Int := if chk C S ≠ 0 then chk C S else if k < 0 ∨ (S.length : Int) < k then 13 else if capOk k C then 0 else 13
def capC (C : List Cr) (S : List Int) (k : Int) : List Cr := C.map (cap1 (riseV S k) k)
def capS (S : List Int) (k : Int) : List Int := (S.drop k.toNat).map (· - riseV S k)
theorem capC_zero (C : List Cr) (S : List Int) : capC C S 0 = C := by
  unfold capC
  have : cap1 (riseV S 0) 0 = id := by
    funext x
    obtain ⟨p, f, o⟩ := x
    simp [cap1, riseV]
  rw [this, List.map_id]
theorem capS_zero (S : List Int) : capS S 0 = S := by
  unfold capS
  have : (fun x : Int => x - riseV S 0) = id := by funext x; simp [riseV]
  simp [riseV]
theorem capOk_zero {C : List Cr} (h : ∀ i, i < C.length → 0 ≤ (C.getD i zc).f) : capOk 0 C = true := capOk_of fun i hi => .inr (h i hi)

end Go.Proofs.YtpcehgifpajmbaaGreat
