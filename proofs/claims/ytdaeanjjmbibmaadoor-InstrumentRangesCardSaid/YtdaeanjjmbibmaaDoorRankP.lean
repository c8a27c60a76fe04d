/- Plain facts: a stable sort of the courses by their pitches is the list that goes pitch by pitch. No program is imported here. -/
import Derived.Test.YtdaeanjjmbibmaaDoorPure3
import Derived.Shelf.SlSortCmp.Insertion
namespace Go.Proofs.YtdaeanjjmbibmaaDoor
open Go.Sort

section
variable {n : Nat} (P : Fin n → Int)

def ltP (x y : Fin n) : Bool := decide (P y < P x)
def ltI (x y : Fin n) : Bool := decide (P y < P x ∨ (P x = P y ∧ x.val < y.val))

theorem swo_ltI : SWO (ltI P) where
  irrefl x := by simp [ltI]
  trans x y z h1 h2 := by simp only [ltI, decide_eq_true_eq] at *; omega
  ntrans x y z h1 h2 := by simp only [ltI, decide_eq_false_iff_not] at *; omega

variable [Inhabited (Fin n)]
theorem inner_eq : ∀ (j : Nat) (d : Array (Fin n)), j < d.size → (∀ q, q < j → (d[q]!).val < (d[j]!).val) → insInner (ltP P) 0 j d = insInner (ltI P) 0 j d
  | 0, d, _, _ => rfl
  | j + 1, d, hs, h => by
    unfold insInner
    have h1 := h j (by omega)
    have e : ltP P d[j + 1]! d[j]! = ltI P d[j + 1]! d[j]! := by
      unfold ltP ltI
      congr 1
      apply propext
      constructor
      · exact Or.inl
      · rintro (h2 | ⟨_, h2⟩)
        · exact h2
        · omega
    rw [e]
    split
    · refine inner_eq j _ (by rw [swp_size]; omega) fun q hq => ?_
      rw [swp_get d hs (show j < d.size by omega), swp_get d hs (show j < d.size by omega), if_neg (by omega), if_neg (by omega), if_pos rfl]
      exact h q (by omega)
    · rfl

theorem outer_eq : ∀ (k i : Nat) (d : Array (Fin n)), d.size = n → i + k = n → (∀ q, q < i → (d[q]!).val < i) → (∀ q, i ≤ q → q < n → (d[q]!).val = q) → insOuter (ltP P) 0 n i d = insOuter (ltI P) 0 n i d
  | 0, i, d, _, hk, _, _ => by unfold insOuter; rw [if_neg (by omega), if_neg (by omega)]
  | k + 1, i, d, hs, hk, h1, h2 => by
    unfold insOuter
    rw [if_pos (by omega), if_pos (by omega)]
    have e := inner_eq P i d (by omega) (fun q hq => by rw [h2 i (by omega) (by omega)]; exact h1 q hq)
    rw [e]
    obtain ⟨hp, _⟩ : PermIn 0 (i + 1) d (insInner (ltI P) 0 i d) ∧ True := by
      have := insInner_perm (ltI P) i d (by omega)
      exact ⟨this, trivial⟩
    refine outer_eq k (i + 1) _ (by rw [hp.1]; exact hs) (by omega) ?_ ?_
    · intro q hq
      refine permIn_all d _ 0 (i + 1) (fun x => x.val < i + 1) (by omega) hp ?_ q (by omega) hq
      intro p _ hp'
      rcases Nat.lt_or_ge p i with h | h
      · have := h1 p h; omega
      · obtain rfl : p = i := by omega
        rw [h2 p (by omega) (by omega)]; omega
    · intro q hq hqn
      rw [hp.2.1 q (.inr hq)]
      exact h2 q (by omega) hqn
where insInner_perm (lt : Fin n → Fin n → Bool) : ∀ (j : Nat) (d : Array (Fin n)), j < d.size → PermIn 0 (j + 1) d (insInner lt 0 j d)
  | 0, d, _ => permIn_refl _ _ _
  | j + 1, d, hs => by
    unfold insInner
    split
    · have h1 : PermIn 0 (j + 2) d (swp d (j + 1) j) := swp_permIn d 0 (j + 2) (j + 1) j (by omega) (by omega) (by omega) (by omega) (by omega)
      have h2 := insInner_perm lt j (swp d (j + 1) j) (by rw [swp_size]; omega)
      exact permIn_trans _ _ _ _ _ h1 (permIn_mono _ _ 0 (j + 1) 0 (j + 2) (by omega) (by omega) (by rw [swp_size]; omega) h2)
    · exact permIn_refl _ _ _

theorem uniq {α : Type} {R : α → α → Prop} (ir : ∀ x, ¬ R x x) (asy : ∀ x y, R x y → ¬ R y x) : ∀ {l m : List α}, l.Pairwise R → m.Pairwise R → (∀ x, x ∈ l ↔ x ∈ m) → l = m
  | [], [], _, _, _ => rfl
  | [], b :: m, _, _, h => absurd ((h b).2 (by simp)) (by simp)
  | a :: l, [], _, _, h => absurd ((h a).1 (by simp)) (by simp)
  | a :: l, b :: m, h1, h2, h => by
    rw [List.pairwise_cons] at h1 h2
    have hab : a = b := by
      rcases List.mem_cons.1 ((h a).1 (by simp)) with e | e
      · exact e
      · rcases List.mem_cons.1 ((h b).2 (by simp)) with e' | e'
        · exact e'.symm
        · exact absurd (h2.1 a e) (asy _ _ (h1.1 b e'))
    subst hab
    rw [uniq ir asy h1.2 h2.2 fun x => ?_]
    constructor
    · intro hx
      rcases List.mem_cons.1 ((h x).1 (List.mem_cons_of_mem _ hx)) with e | e
      · subst e; exact absurd (h1.1 x hx) (ir x)
      · exact e
    · intro hx
      rcases List.mem_cons.1 ((h x).2 (List.mem_cons_of_mem _ hx)) with e | e
      · subst e; exact absurd (h2.1 x hx) (ir x)
      · exact e

/-- The sorted row, as a list: ascending by ltI, and every number is in it. -/
theorem sorted_list (d : Array (Fin n)) (hs : d.size = n) (hd : ∀ q, q < n → (d[q]!).val = q) :
    (insertionSort (ltP P) d 0 n).size = n ∧ (insertionSort (ltP P) d 0 n).toList.Pairwise (fun x y => ltI P x y = true) ∧ ∀ x, x ∈ (insertionSort (ltP P) d 0 n).toList := by
  have e : insertionSort (ltP P) d 0 n = insertionSort (ltI P) d 0 n := by
    unfold insertionSort
    rcases Nat.eq_zero_or_pos n with h | h
    · unfold insOuter; rw [if_neg (by omega), if_neg (by omega)]
    · refine outer_eq P (n - 1) 1 d hs (by omega) ?_ fun q _ h => hd q h
      intro q hq
      obtain rfl : q = 0 := by omega
      rw [hd 0 h]; omega
  obtain ⟨hp, hso⟩ := insertionSort_holds (swo_ltI P) d 0 n (by omega) (by omega)
  rw [e]
  have hsz : (insertionSort (ltI P) d 0 n).size = n := by rw [hp.1]; exact hs
  have hperm : (insertionSort (ltI P) d 0 n).toList.Perm d.toList := by
    have := hp.2.2
    rwa [Array.extract_eq_self_of_le (by omega), Array.extract_eq_self_of_le (by omega)] at this
  have hnd : d.toList.Nodup := by
    rw [List.nodup_iff_pairwise_ne, List.pairwise_iff_getElem]
    intro i j hi hj hij he
    simp at hi hj
    have a1 := hd i (by omega)
    have a2 := hd j (by omega)
    rw [getElem!_pos d i (by omega)] at a1
    rw [getElem!_pos d j (by omega)] at a2
    have he' : d[i] = d[j] := by simpa using he
    rw [he'] at a1
    omega
  refine ⟨hsz, ?_, ?_⟩
  · have hnd' := hperm.nodup_iff.2 hnd
    rw [List.nodup_iff_pairwise_ne, List.pairwise_iff_getElem] at hnd'
    rw [List.pairwise_iff_getElem]
    intro i j hi hj hij
    have h1 := hso i j (by omega) hij (by simp at hj; omega)
    simp at hi hj
    rw [getElem!_pos _ i hi, getElem!_pos _ j hj] at h1
    have h2 := hnd' i j (by simpa using hi) (by simpa using hj) hij
    simp only [Array.getElem_toList] at h2 ⊢
    simp only [ltI, decide_eq_false_iff_not, decide_eq_true_eq] at h1 ⊢
    have h3 : ((insertionSort (ltI P) d 0 n)[i]).val ≠ ((insertionSort (ltI P) d 0 n)[j]).val := fun h => h2 (Fin.ext h)
    omega
  · intro x
    rw [hperm.mem_iff]
    have hx := hd x.val x.isLt
    rw [getElem!_pos d x.val (by omega)] at hx
    have : d[x.val]'(by omega) = x := Fin.ext hx
    rw [← this]
    simp
end

/-- The courses at one pitch, counted from i + 1 on. -/
def rkG (p : Int) : Nat → List Cr → List Int
  | _, [] => []
  | i, x :: r => if x.p = p then ((i : Int) + 1) :: rkG p (i + 1) r else rkG p (i + 1) r
/-- Pitch by pitch, from k - 1 down to 0. -/
def rkD (C : List Cr) : Nat → List Int
  | 0 => []
  | k + 1 => rkG k 0 C ++ rkD C k
def rkL (C : List Cr) : List Int := rkD C 128

theorem rkG_mem {C : List Cr} {p : Int} : ∀ {D : List Cr} {i : Nat}, C.drop i = D → ∀ x, x ∈ rkG p i D ↔ ∃ k : Nat, i ≤ k ∧ k < C.length ∧ (C.getD k ⟨0, 0, false⟩).p = p ∧ x = (k : Int) + 1
  | [], i, h, x => by
    have : C.length ≤ i := by simpa using h
    simp [rkG]; omega
  | y :: r, i, h, x => by
    have hi : i < C.length := by
      rcases Nat.lt_or_ge i C.length with h' | h'
      · exact h'
      · rw [List.drop_of_length_le h'] at h; cases h
    have hy : C.getD i ⟨0, 0, false⟩ = y := by
      rw [List.drop_eq_getElem_cons hi] at h
      injection h with h1 h2
      rw [List.getD_eq_getElem?_getD, List.getElem?_eq_getElem hi, ← h1]; rfl
    have hr : C.drop (i + 1) = r := by
      rw [List.drop_eq_getElem_cons hi] at h
      injection h
    have ih := rkG_mem (p := p) hr x
    unfold rkG
    split
    · rename_i hp
      rw [List.mem_cons, ih]
      constructor
      · rintro (rfl | ⟨k, h1, h2, h3, h4⟩)
        · exact ⟨i, by omega, hi, by rw [hy]; exact hp, rfl⟩
        · exact ⟨k, by omega, h2, h3, h4⟩
      · rintro ⟨k, h1, h2, h3, h4⟩
        rcases Nat.eq_or_lt_of_le h1 with rfl | h1
        · exact .inl h4
        · exact .inr ⟨k, by omega, h2, h3, h4⟩
    · rename_i hp
      rw [ih]
      constructor
      · rintro ⟨k, h1, h2, h3, h4⟩
        exact ⟨k, by omega, h2, h3, h4⟩
      · rintro ⟨k, h1, h2, h3, h4⟩
        rcases Nat.eq_or_lt_of_le h1 with rfl | h1
        · rw [hy] at h3; exact absurd h3 hp
        · exact ⟨k, by omega, h2, h3, h4⟩
theorem rkG_up (p : Int) : ∀ (D : List Cr) (i : Nat), (rkG p i D).Pairwise (· < ·) ∧ ∀ x ∈ rkG p i D, (i : Int) < x
  | [], i => ⟨List.Pairwise.nil, by simp [rkG]⟩
  | y :: r, i => by
    obtain ⟨h1, h2⟩ := rkG_up p r (i + 1)
    unfold rkG
    split
    · refine ⟨List.pairwise_cons.2 ⟨fun x hx => ?_, h1⟩, fun x hx => ?_⟩
      · have := h2 x hx; omega
      · rcases List.mem_cons.1 hx with rfl | hx
        · omega
        · have := h2 x hx; omega
    · exact ⟨h1, fun x hx => by have := h2 x hx; omega⟩

/-- The pitch of a course by its number. -/
def pOf (C : List Cr) (x : Int) : Int := (C.getD (x - 1).toNat ⟨0, 0, false⟩).p
def rkR (C : List Cr) (x y : Int) : Prop := pOf C y < pOf C x ∨ (pOf C x = pOf C y ∧ x < y)

theorem rkD_mem (C : List Cr) : ∀ (k : Nat) (x : Int), x ∈ rkD C k ↔ ∃ i : Nat, i < C.length ∧ 0 ≤ (C.getD i ⟨0, 0, false⟩).p ∧ (C.getD i ⟨0, 0, false⟩).p < k ∧ x = (i : Int) + 1
  | 0, x => by simp [rkD]; omega
  | k + 1, x => by
    rw [rkD, List.mem_append, rkG_mem (C := C) (D := C) (i := 0) rfl, rkD_mem C k x]
    constructor
    · rintro (⟨i, h1, h2, h3, h4⟩ | ⟨i, h1, h2, h3, h4⟩)
      · exact ⟨i, h2, by omega, by omega, h4⟩
      · exact ⟨i, h1, h2, by omega, h4⟩
    · rintro ⟨i, h1, h2, h3, h4⟩
      by_cases h : (C.getD i ⟨0, 0, false⟩).p = k
      · exact .inl ⟨i, by omega, h1, h, h4⟩
      · exact .inr ⟨i, h1, h2, by omega, h4⟩
theorem pOf_nat (C : List Cr) (i : Nat) : pOf C ((i : Int) + 1) = (C.getD i ⟨0, 0, false⟩).p := by
  unfold pOf; congr 2; omega
theorem rkD_pw (C : List Cr) : ∀ k, (rkD C k).Pairwise (rkR C)
  | 0 => List.Pairwise.nil
  | k + 1 => by
    rw [rkD, List.pairwise_append]
    refine ⟨?_, rkD_pw C k, ?_⟩
    · refine (List.Pairwise.and_mem.1 (rkG_up k C 0).1).imp ?_
      rintro x y ⟨hx, hy, hlt⟩
      obtain ⟨i, _, _, h3, rfl⟩ := (rkG_mem (C := C) (D := C) (i := 0) rfl x).1 hx
      obtain ⟨j, _, _, h4, rfl⟩ := (rkG_mem (C := C) (D := C) (i := 0) rfl y).1 hy
      right
      rw [pOf_nat, pOf_nat]
      exact ⟨h3.trans h4.symm, hlt⟩
    · intro x hx y hy
      obtain ⟨i, _, _, h3, rfl⟩ := (rkG_mem (C := C) (D := C) (i := 0) rfl x).1 hx
      obtain ⟨j, _, _, h4, rfl⟩ := (rkD_mem C k y).1 hy
      left
      rw [pOf_nat, pOf_nat]
      omega

/-- THE STABLE SORT IS THE LIST THAT GOES PITCH BY PITCH. -/
theorem rank_eq {C : List Cr} [Inhabited (Fin C.length)] (h : ∀ i, i < C.length → 0 ≤ (C.getD i ⟨0, 0, false⟩).p ∧ (C.getD i ⟨0, 0, false⟩).p ≤ 127) (d : Array (Fin C.length)) (hs : d.size = C.length) (hd : ∀ q, q < C.length → (d[q]!).val = q) :
    (insertionSort (ltP fun i : Fin C.length => (C.getD i.val ⟨0, 0, false⟩).p) d 0 C.length).toList.map (fun i => (i.val : Int) + 1) = rkL C := by
  obtain ⟨h1, h2, h3⟩ := sorted_list (fun i : Fin C.length => (C.getD i.val ⟨0, 0, false⟩).p) d hs hd
  refine uniq (R := rkR C) (fun x => by unfold rkR; omega) (fun x y h => by unfold rkR at *; omega) ?_ (rkD_pw C 128) ?_
  · rw [List.pairwise_map]
    refine h2.imp ?_
    intro x y hxy
    simp only [ltI, decide_eq_true_eq] at hxy
    unfold rkR
    rw [pOf_nat, pOf_nat]
    omega
  · intro x
    rw [show rkL C = rkD C 128 from rfl, rkD_mem, List.mem_map]
    constructor
    · rintro ⟨i, _, rfl⟩
      have := h i.val i.isLt
      exact ⟨i.val, i.isLt, this.1, by omega, rfl⟩
    · rintro ⟨i, h4, _, _, rfl⟩
      exact ⟨⟨i, h4⟩, h3 _, rfl⟩
theorem rank_len {C : List Cr} [Inhabited (Fin C.length)] (h : ∀ i, i < C.length → 0 ≤ (C.getD i ⟨0, 0, false⟩).p ∧ (C.getD i ⟨0, 0, false⟩).p ≤ 127) : (rkL C).length = C.length := by
  have hz : (Array.ofFn (fun i : Fin C.length => i)).size = C.length := by simp
  have hd : ∀ q, q < C.length → ((Array.ofFn (fun i : Fin C.length => i))[q]!).val = q := by
    intro q hq
    rw [getElem!_pos _ q (by simpa using hq)]
    simp
  rw [← rank_eq h _ hz hd, List.length_map, Array.length_toList]
  exact (sorted_list _ _ hz hd).1

/-- The courses that are higher than the one before: from the course i + 1 on, behind one of pitch b. -/
def reL : Int → Nat → List Cr → List Int
  | _, _, [] => []
  | b, i, x :: r => if b < x.p then ((i : Int) + 1) :: reL x.p (i + 1) r else reL x.p (i + 1) r
def reA (C : List Cr) : List Int := match C with | [] => [] | x :: r => reL x.p 1 r

end Go.Proofs.YtdaeanjjmbibmaaDoor
