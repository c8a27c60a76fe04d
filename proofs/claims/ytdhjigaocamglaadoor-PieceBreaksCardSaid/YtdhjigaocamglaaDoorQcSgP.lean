/- The fewest signs: the closure's search as a function, the reference's table, and that both give one list. -/
import Derived.Test.YtdhjigaocamglaaDoorQcWorks2
namespace Go.Proofs.YtdhjigaocamglaaDoor
open Go.RowKit

theorem tks_range {k : Nat} (h : k < 21) : k = 0 ∨ k = 1 ∨ k = 2 ∨ k = 3 ∨ k = 4 ∨ k = 5 ∨ k = 6 ∨ k = 7 ∨ k = 8 ∨ k = 9 ∨ k = 10 ∨ k = 11 ∨ k = 12 ∨ k = 13 ∨ k = 14 ∨ k = 15 ∨ k = 16 ∨ k = 17 ∨ k = 18 ∨ k = 19 ∨ k = 20 := by omega
theorem tks_step (k : Nat) (h : k + 1 < 21) : tks (k + 1) ≤ tks k := by
  rcases tks_range (k := k) (by omega) with rfl | rfl | rfl | rfl | rfl | rfl | rfl | rfl | rfl | rfl | rfl | rfl | rfl | rfl | rfl | rfl | rfl | rfl | rfl | rfl | rfl <;> first | decide | omega
theorem tks_anti {i j : Nat} (h : i ≤ j) (hj : j < 21) : tks j ≤ tks i := by
  induction j with
  | zero => obtain rfl : i = 0 := by omega
            exact Int.le_refl _
  | succ j ih =>
    by_cases e : i = j + 1
    · rw [e]; exact Int.le_refl _
    · exact Int.le_trans (tks_step j hj) (ih (by omega) (by omega))
theorem tks_four {k : Nat} (h : k < 21) : 4 ≤ tks k ∧ tks k ≤ 576 :=
  ⟨tks_anti (i := k) (j := 20) (by omega) (by omega), tks_anti (i := 0) (j := k) (by omega) h⟩

/-- The first list of count signs, none ahead of the one at the index, that adds up to the rest. -/
def flL (f : Int → Nat → Option (List Nat)) (c r : Int) : Nat → Option (List Nat)
  | 0 => none
  | m + 1 => if r < tks (20 - m) then flL f c r m else if tks (20 - m) * c < r then none else
      match f (r - tks (20 - m)) (20 - m) with
      | some l => some ((20 - m) :: l)
      | none => flL f c r m
def fl : Nat → Int → Nat → Option (List Nat)
  | 0, r, _ => if r = 0 then some [] else none
  | n + 1, r, i => flL (fl n) (n + 1 : Nat) r (21 - i)
/-- From the sign at i on, for n + 1 signs. -/
def fr (n : Nat) (r : Int) (i : Nat) : Option (List Nat) := flL (fl n) (n + 1 : Nat) r (21 - i)
theorem fl_succ (n : Nat) (r : Int) (i : Nat) : fl (n + 1) r i = fr n r i := rfl
theorem fr_end (n : Nat) (r : Int) : fr n r 21 = none := rfl
theorem fr_step (n : Nat) (r : Int) (i : Nat) (h : i < 21) : fr n r i = if r < tks i then fr n r (i + 1) else if tks i * (n + 1 : Nat) < r then none else
    match fl n (r - tks i) i with
    | some l => some (i :: l)
    | none => fr n r (i + 1) := by
  unfold fr
  have e : 21 - i = (20 - i) + 1 := by omega
  have e2 : 21 - (i + 1) = 20 - i := by omega
  have e3 : 20 - (20 - i) = i := by omega
  rw [e, e2, flL, e3]
theorem fr_long {n : Nat} {r : Int} {i : Nat} (h : i < 21) (h1 : r < tks i) : fr n r i = fr n r (i + 1) := by rw [fr_step n r i h, if_pos h1]
theorem fr_short {n : Nat} {r : Int} {i : Nat} (h : i < 21) (h1 : tks i ≤ r) (h2 : tks i * (n + 1 : Nat) < r) : fr n r i = none := by rw [fr_step n r i h, if_neg (by omega), if_pos h2]
theorem fr_miss {n : Nat} {r : Int} {i : Nat} (h : i < 21) (h1 : tks i ≤ r) (h2 : r ≤ tks i * (n + 1 : Nat)) (h3 : fl n (r - tks i) i = none) : fr n r i = fr n r (i + 1) := by rw [fr_step n r i h, if_neg (by omega), if_neg (by omega), h3]
theorem fr_hit {n : Nat} {r : Int} {i : Nat} {l : List Nat} (h : i < 21) (h1 : tks i ≤ r) (h2 : r ≤ tks i * (n + 1 : Nat)) (h3 : fl n (r - tks i) i = some l) : fr n r i = some (i :: l) := by rw [fr_step n r i h, if_neg (by omega), if_neg (by omega), h3]

def sumT : List Nat → Int
  | [] => 0
  | k :: l => tks k + sumT l
/-- What a found list is. -/
def Way (c : Nat) (r : Int) (i : Nat) (l : List Nat) : Prop := l.length = c ∧ (∀ x ∈ l, i ≤ x ∧ x < 21) ∧ sumT l = r
def asc : List Nat → Prop
  | [] => True
  | k :: l => (∀ x ∈ l, k ≤ x) ∧ asc l
theorem sumT_pos {l : List Nat} (h : ∀ x ∈ l, x < 21) : 4 * (l.length : Int) ≤ sumT l := by
  induction l with
  | nil => exact Int.le_refl _
  | cons k l ih =>
    have h1 := ih fun x hx => h x (List.mem_cons_of_mem _ hx)
    have h2 := tks_four (h k (List.mem_cons_self ..))
    simp only [sumT, List.length_cons]
    omega
theorem fr_head {n : Nat} {r : Int} {i : Nat} {l : List Nat} (h : fr n r i = some l) : ∃ k l', l = k :: l' ∧ i ≤ k ∧ k < 21 ∧ tks k ≤ r ∧ r ≤ tks k * (n + 1 : Nat) ∧ fl n (r - tks k) k = some l' ∧ ∀ j, i ≤ j → j < k → tks j ≤ r → fl n (r - tks j) j = none := by
  obtain ⟨m, hm⟩ : ∃ m, m = 21 - i := ⟨_, rfl⟩
  induction m generalizing i with
  | zero =>
    have : fr n r i = none := by unfold fr; rw [← hm]; rfl
    rw [this] at h
    cases h
  | succ m ih =>
    have hi : i < 21 := by omega
    have next : fr n r (i + 1) = some l → (tks i ≤ r → fl n (r - tks i) i = none) → ∃ k l', l = k :: l' ∧ i ≤ k ∧ k < 21 ∧ tks k ≤ r ∧ r ≤ tks k * (n + 1 : Nat) ∧ fl n (r - tks k) k = some l' ∧ ∀ j, i ≤ j → j < k → tks j ≤ r → fl n (r - tks j) j = none := fun e hn => by
      obtain ⟨k, l', h1, h2, h3, h4, h5, h6, h7⟩ := ih e (by omega)
      exact ⟨k, l', h1, by omega, h3, h4, h5, h6, fun j hj hk ht => by
        by_cases ej : j = i
        · subst ej; exact hn ht
        · exact h7 j (by omega) hk ht⟩
    by_cases h1 : r < tks i
    · rw [fr_long hi h1] at h
      exact next h fun h2 => by omega
    · by_cases h2 : tks i * (n + 1 : Nat) < r
      · rw [fr_short hi (by omega) h2] at h
        cases h
      · cases h3 : fl n (r - tks i) i with
        | none =>
          rw [fr_miss hi (by omega) (by omega) h3] at h
          exact next h fun _ => h3
        | some l' =>
          rw [fr_hit hi (by omega) (by omega) h3] at h
          exact ⟨i, l', by injection h with h; exact h.symm, by omega, hi, by omega, by omega, h3, fun j hj hk => by omega⟩
theorem fl_some {c : Nat} {r : Int} {i : Nat} {l : List Nat} (h : fl c r i = some l) : Way c r i l ∧ asc l := by
  induction c generalizing r i l with
  | zero =>
    simp only [fl] at h
    split at h
    · injection h with h
      subst h
      exact ⟨⟨rfl, fun x hx => absurd hx (by simp), by simpa [sumT] using Eq.symm ‹r = 0›⟩, trivial⟩
    · cases h
  | succ n ih =>
    rw [fl_succ] at h
    obtain ⟨k, l', rfl, h2, h3, h4, h5, h6, h7⟩ := fr_head h
    obtain ⟨⟨a, b, s⟩, d⟩ := ih h6
    refine ⟨⟨by simp [a], fun x hx => ?_, by simp only [sumT]; omega⟩, fun x hx => (b x hx).1, d⟩
    rcases List.mem_cons.1 hx with rfl | hx
    · exact ⟨h2, h3⟩
    · exact ⟨by have := (b x hx).1; omega, (b x hx).2⟩
theorem sumT_erase {l : List Nat} {k : Nat} (h : k ∈ l) : sumT (l.erase k) = sumT l - tks k := by
  induction l with
  | nil => cases h
  | cons j l ih =>
    by_cases e : j = k
    · subst e
      rw [List.erase_cons_head]
      simp only [sumT]
      omega
    · rw [List.erase_cons_tail (by simpa using e)]
      have hk : k ∈ l := by
        rcases List.mem_cons.1 h with rfl | h
        · exact absurd rfl e
        · exact h
      simp only [sumT]
      rw [ih hk]
      omega
theorem sumT_le {l : List Nat} {i : Nat} (hi : ∀ x ∈ l, i ≤ x ∧ x < 21) : sumT l ≤ tks i * (l.length : Int) := by
  induction l with
  | nil => simp [sumT]
  | cons k l ih =>
    have h1 := ih fun x hx => hi x (List.mem_cons_of_mem _ hx)
    have h2 := hi k (List.mem_cons_self ..)
    have h3 := tks_anti h2.1 h2.2
    simp only [sumT, List.length_cons]
    rw [show ((l.length + 1 : Nat) : Int) = (l.length : Int) + 1 by simp, Int.mul_add]
    omega
theorem fl_none {c : Nat} {r : Int} {i : Nat} (h : fl c r i = none) (l : List Nat) : ¬Way c r i l := by
  induction c generalizing r i l with
  | zero =>
    rintro ⟨a, b, s⟩
    obtain rfl : l = [] := List.eq_nil_of_length_eq_zero a
    simp only [sumT] at s
    subst s
    simp [fl] at h
  | succ n ih =>
    rw [fl_succ] at h
    obtain ⟨m, hm⟩ : ∃ m, m = 21 - i := ⟨_, rfl⟩
    induction m generalizing i with
    | zero =>
      rintro ⟨a, b, s⟩
      match l, a with
      | k :: l, _ =>
        have := b k (List.mem_cons_self ..)
        omega
    | succ m ihm =>
      have hi : i < 21 := by omega
      rintro ⟨a, b, s⟩
      have hle : r ≤ tks i * (n + 1 : Nat) := by
        have := sumT_le b
        rw [a, s] at this
        exact this
      by_cases hmem : i ∈ l
      · have hs := sumT_erase hmem
        have hl : (l.erase i).length = n := by rw [List.length_erase_of_mem hmem, a]; rfl
        have hb : ∀ x ∈ l.erase i, i ≤ x ∧ x < 21 := fun x hx => b x (List.mem_of_mem_erase hx)
        have h0 : tks i ≤ r := by
          have := sumT_pos fun x hx => (hb x hx).2
          omega
        cases h3 : fl n (r - tks i) i with
        | none => exact ih h3 (l.erase i) ⟨hl, hb, by omega⟩
        | some l' =>
          rw [fr_hit hi h0 hle h3] at h
          cases h
      · have hb : ∀ x ∈ l, i + 1 ≤ x ∧ x < 21 := fun x hx => by
          have := b x hx
          have hne : x ≠ i := fun e => hmem (e ▸ hx)
          omega
        have next : fr n r (i + 1) = none → False := fun e => ihm e (by omega) ⟨a, hb, s⟩
        by_cases h1 : r < tks i
        · rw [fr_long hi h1] at h
          exact next h
        · cases h3 : fl n (r - tks i) i with
          | none =>
            rw [fr_miss hi (by omega) hle h3] at h
            exact next h
          | some l' =>
            rw [fr_hit hi (by omega) hle h3] at h
            cases h

/-- The first count that finds a list. -/
def sgQc (r : Int) (c : Nat) : Nat → Option (List Nat)
  | 0 => none
  | m + 1 => match fl c r 0 with
    | some l => some l
    | none => sgQc r (c + 1) m
def sgP (r : Int) : Option (List Nat) := sgQc r 0 (r / 4 + 1).toNat
theorem sgQc_some {r : Int} {c m : Nat} {l : List Nat} (h : sgQc r c m = some l) : fl l.length r 0 = some l ∧ c ≤ l.length ∧ ∀ d, c ≤ d → d < l.length → fl d r 0 = none := by
  induction m generalizing c with
  | zero => cases h
  | succ m ih =>
    rw [sgQc] at h
    cases e : fl c r 0 with
    | some l' =>
      rw [e] at h
      injection h with h
      subst h
      have := (fl_some e).1.1
      rw [this]
      exact ⟨e, Nat.le_refl _, fun d _ _ => by omega⟩
    | none =>
      rw [e] at h
      obtain ⟨a, b, d⟩ := ih h
      exact ⟨a, by omega, fun j hj hl => by
        by_cases ej : j = c
        · subst ej; exact e
        · exact d j (by omega) hl⟩
theorem sgQc_none {r : Int} {c m : Nat} (h : sgQc r c m = none) : ∀ d, c ≤ d → d < c + m → fl d r 0 = none := by
  induction m generalizing c with
  | zero => intro d _ _; omega
  | succ m ih =>
    rw [sgQc] at h
    cases e : fl c r 0 with
    | some l' => rw [e] at h; cases h
    | none =>
      rw [e] at h
      intro d h1 h2
      by_cases ej : d = c
      · subst ej; exact e
      · exact ih h d (by omega) (by omega)
theorem sgP_none {r : Int} (h : sgP r = none) (c : Nat) (l : List Nat) : ¬Way c r 0 l := by
  intro hw
  have h4 := sumT_pos fun x hx => (hw.2.1 x hx).2
  rw [hw.1, hw.2.2] at h4
  exact fl_none (sgQc_none h c (by omega) (by omega)) l hw
theorem sgP_some {r : Int} {l : List Nat} (h : sgP r = some l) : fl l.length r 0 = some l ∧ Way l.length r 0 l ∧ asc l ∧ ∀ c l', Way c r 0 l' → l.length ≤ c := by
  obtain ⟨a, b, d⟩ := sgQc_some h
  refine ⟨a, (fl_some a).1, (fl_some a).2, fun c l' hw => ?_⟩
  apply Nat.le_of_not_lt
  intro hlt
  exact fl_none (d c (by omega) hlt) l' hw
/-- The fewest signs, -1 where there are none. -/
def lv (r : Int) : Int := match sgP r with
  | some l => l.length
  | none => -1
theorem lv_way {c : Nat} {r : Int} {l : List Nat} (h : Way c r 0 l) : 0 ≤ lv r ∧ lv r ≤ c := by
  unfold lv
  cases e : sgP r with
  | none => exact absurd h (sgP_none e c l)
  | some l' =>
    have := (sgP_some e).2.2.2 c l h
    simp only
    omega
theorem lv_some {r : Int} (h : 0 ≤ lv r) : ∃ l, sgP r = some l ∧ lv r = l.length ∧ Way l.length r 0 l := by
  cases e : sgP r with
  | none =>
    simp only [lv, e] at h
    omega
  | some l => exact ⟨l, rfl, by simp only [lv, e], (sgP_some e).2.1⟩
theorem lv_low (r : Int) : -1 ≤ lv r := by
  unfold lv
  cases sgP r with
  | none => simp
  | some l => simp only; omega
theorem lv_zero : lv 0 = 0 := by decide
theorem way_cons {c : Nat} {r : Int} {l : List Nat} {k : Nat} (hk : k < 21) (h : Way c (r - tks k) 0 l) : Way (c + 1) r 0 (k :: l) :=
  ⟨by simp [h.1], fun x hx => by
    rcases List.mem_cons.1 hx with rfl | hx
    · exact ⟨Nat.zero_le _, hk⟩
    · exact h.2.1 x hx, by have := h.2.2; simp only [sumT]; omega⟩
theorem lv_step {r : Int} {k : Nat} (hk : k < 21) (h : 0 ≤ lv (r - tks k)) : 0 ≤ lv r ∧ lv r ≤ lv (r - tks k) + 1 := by
  obtain ⟨l, _, h2, h3⟩ := lv_some h
  have := lv_way (way_cons hk h3)
  rw [h2]
  omega
theorem lv_first {r : Int} (hr : 0 < r) (h : 0 ≤ lv r) : ∃ k, k < 21 ∧ tks k ≤ r ∧ 0 ≤ lv (r - tks k) ∧ lv (r - tks k) + 1 ≤ lv r := by
  obtain ⟨l, _, h2, h3⟩ := lv_some h
  match l, h2, h3 with
  | [], _, h3 =>
    have := h3.2.2
    simp only [sumT] at this
    omega
  | k :: l, h2, h3 =>
    have hk := (h3.2.1 k (List.mem_cons_self ..)).2
    have hw : Way l.length (r - tks k) 0 l := ⟨rfl, fun x hx => h3.2.1 x (List.mem_cons_of_mem _ hx), by have := h3.2.2; simp only [sumT] at this; omega⟩
    have h4 := sumT_pos fun x hx => (hw.2.1 x hx).2
    have h5 := lv_way hw
    refine ⟨k, hk, by have := hw.2.2; omega, h5.1, ?_⟩
    rw [h2]
    simp only [List.length_cons]
    omega

/-- The table's value, as the loop over the signs finds it: c is the least of what the signs ahead of k give, -1 if they give nothing. -/
def Best (r : Int) (k : Nat) (c : Int) : Prop := (c = -1 ∧ ∀ j, j < k → tks j ≤ r → lv (r - tks j) < 0) ∨ (0 ≤ c ∧ (∃ j, j < k ∧ tks j ≤ r ∧ 0 ≤ lv (r - tks j) ∧ c = lv (r - tks j) + 1) ∧ ∀ j, j < k → tks j ≤ r → 0 ≤ lv (r - tks j) → c ≤ lv (r - tks j) + 1)
theorem best_start (r : Int) : Best r 0 (-1) := .inl ⟨rfl, fun j hj => by omega⟩
theorem best_end {r c : Int} (hr : 0 < r) (h : Best r 21 c) : c = lv r := by
  rcases h with ⟨rfl, h⟩ | ⟨h0, ⟨j, hj, h1, h2, h3⟩, h4⟩
  · have := lv_low r
    apply Int.le_antisymm this
    apply Int.not_lt.1
    intro hlt
    obtain ⟨k, a, b, d, e⟩ := lv_first hr (by omega)
    have := h k a b
    omega
  · obtain ⟨a, b⟩ := lv_step hj h2
    obtain ⟨k, p, q, s, t⟩ := lv_first hr a
    have := h4 k p q s
    omega
theorem best_skip {r c : Int} {k : Nat} (h : Best r k c) (h1 : tks k ≤ r → 0 ≤ lv (r - tks k) → 0 ≤ c ∧ c ≤ lv (r - tks k) + 1) : Best r (k + 1) c := by
  rcases h with ⟨rfl, h⟩ | ⟨h0, ⟨j, hj, h2⟩, h4⟩
  · refine .inl ⟨rfl, fun j hj ht => ?_⟩
    by_cases e : j = k
    · subst e
      apply Int.lt_of_not_ge
      intro hge
      have := (h1 ht hge).1
      omega
    · exact h j (by omega) ht
  · refine .inr ⟨h0, ⟨j, by omega, h2⟩, fun j hj ht hl => ?_⟩
    by_cases e : j = k
    · subst e
      exact (h1 ht hl).2
    · exact h4 j (by omega) ht hl
theorem best_take {r c : Int} {k : Nat} (h : Best r k c) (h1 : tks k ≤ r) (h2 : 0 ≤ lv (r - tks k)) (h3 : c < 0 ∨ lv (r - tks k) + 1 < c) : Best r (k + 1) (lv (r - tks k) + 1) := by
  refine .inr ⟨by omega, ⟨k, by omega, h1, h2, rfl⟩, fun j hj ht hl => ?_⟩
  by_cases e : j = k
  · subst e
    omega
  · rcases h with ⟨rfl, h⟩ | ⟨h0, _, h4⟩
    · have := h j (by omega) ht
      omega
    · have := h4 j (by omega) ht hl
      omega

/-- What is left to take of the shortest list, as the reference takes it. -/
def Left (r : Int) (l : List Nat) : Prop := lv r = l.length ∧ ∃ i, fl l.length r i = some l ∧ ∀ j, j < i → j < 21 → tks j ≤ r → lv (r - tks j) ≠ lv r - 1
theorem left_start {r : Int} {l : List Nat} (h : sgP r = some l) : Left r l :=
  ⟨by simp only [lv, h], 0, (sgP_some h).1, fun j hj => by omega⟩
theorem left_nil {r : Int} (h : Left r []) : r = 0 := by
  obtain ⟨_, i, h, _⟩ := h
  simp only [List.length_nil, fl] at h
  split at h
  · assumption
  · cases h
theorem left_cons {r : Int} {k : Nat} {l : List Nat} (h : Left r (k :: l)) : k < 21 ∧ tks k ≤ r ∧ lv (r - tks k) = lv r - 1 ∧ (∀ j, j < k → tks j ≤ r → lv (r - tks j) ≠ lv r - 1) ∧ Left (r - tks k) l := by
  obtain ⟨h0, i, h, hi⟩ := h
  simp only [List.length_cons] at h h0
  have h' := h
  rw [fl_succ] at h
  obtain ⟨k', l', e, h2, h3, h4, h5, h6, h7⟩ := fr_head h
  injection e with e1 e2
  subst e1
  subst e2
  have hw := (fl_some h6).1
  have hw0 : Way l.length (r - tks k) 0 l := ⟨hw.1, fun x hx => ⟨Nat.zero_le _, (hw.2.1 x hx).2⟩, hw.2.2⟩
  have hlv : lv (r - tks k) = lv r - 1 := by
    have a := lv_way hw0
    have b := lv_step h3 a.1
    omega
  have hlt : ∀ j, j < k → tks j ≤ r → lv (r - tks j) ≠ lv r - 1 := by
    intro j
    induction j using Nat.strongRecOn with
    | _ j ih =>
      intro hj ht e
      by_cases hji : j < i
      · exact hi j hji (by omega) ht e
      · have hn := h7 j (by omega) hj ht
        obtain ⟨q, _, q2, q3⟩ := lv_some (r := r - tks j) (by omega)
        have ql : q.length = l.length := by omega
        refine fl_none hn q ⟨ql, fun x hx => ⟨?_, (q3.2.1 x hx).2⟩, q3.2.2⟩
        apply Nat.le_of_not_lt
        intro hx2
        have hx21 := (q3.2.1 x hx).2
        -- x taken first leaves a list of the same length
        have hsum : sumT (q.erase x) = r - tks j - tks x := by rw [sumT_erase hx, q3.2.2]
        have hlen : (q.erase x).length + 1 = q.length := by
          have := List.length_pos_of_mem hx
          rw [List.length_erase_of_mem hx]
          omega
        have hwx : Way ((q.erase x).length + 1) (r - tks x) 0 (j :: q.erase x) := way_cons (by omega) ⟨rfl, fun y hy => ⟨Nat.zero_le _, (q3.2.1 y (List.mem_of_mem_erase hy)).2⟩, by omega⟩
        have a := lv_way hwx
        have hpos := sumT_pos (l := q.erase x) fun y hy => (q3.2.1 y (List.mem_of_mem_erase hy)).2
        have h4j := tks_four (k := j) (by omega)
        have b := lv_step (r := r) hx21 a.1
        exact ih x hx2 (by omega) (by omega) (by omega)
  refine ⟨h3, h4, hlv, hlt, by omega, k, h6, fun j hj hj21 ht e => ?_⟩
  obtain ⟨q, _, q2, q3⟩ := lv_some (r := r - tks k - tks j) (by
    have := lv_way hw0
    match l, hw0, hlv, h0 with
    | [], hw0, _, _ =>
      have := hw0.2.2
      simp only [sumT] at this
      have := tks_four hj21
      omega
    | _ :: l, _, hlv, h0 =>
      simp only [List.length_cons] at h0
      omega)
  have hwj : Way (q.length + 1) (r - tks j) 0 (k :: q) := way_cons h3 ⟨q3.1, q3.2.1, by have := q3.2.2; omega⟩
  have a := lv_way hwj
  have b := lv_step (r := r) hj21 a.1
  have hk4 := tks_four h3
  exact hlt j hj (by omega) (by omega)

end Go.Proofs.YtdhjigaocamglaaDoor
