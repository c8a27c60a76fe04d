/- The fewest signs: the closure's search as a function, the reference's table, and that both give one list. -/
import Derived.Test.YtdhjigaocamglaaDoorQdWorks2
import Derived.Test.YtdhjigaocamglaaDoorQdTkR
namespace Go.Proofs.YtdhjigaocamglaaDoor
open Go.RowKit

theorem tks_range {k : Nat} (h : k < 21) : k = 0 ∨ k = 1 ∨ k = 2 ∨ k = 3 ∨ k = 4 ∨ k = 5 ∨ k = 6 ∨ k = 7 ∨ k = 8 ∨ k = 9 ∨ k = 10 ∨ k = 11 ∨ k = 12 ∨ k = 13 ∨ k = 14 ∨ k = 15 ∨ k = 16 ∨ k = 17 ∨ k = 18 ∨ k = 19 ∨ k = 20 := by omega
theorem tks_step (k : Nat) (h : k + 1 < 21) : tks (k + 1) ≤ tks k := by
  rcases tks_range (k := k) (by omega) with rfl | rfl | rfl | rfl | rfl | rfl | rfl | rfl | rfl | rfl | rfl | rfl | rfl | rfl | rfl | rfl | rfl | rfl | rfl | rfl | rfl <;> first | decide | omega
theorem tks_anti {i j : Nat} (h : i ≤ j) (hj : j < 21) : tks j ≤ tks i := by
  induction j with
  | zero => obtain rfl : i = 0 := by omega
            exact Int.le_refl _
  | succ j ih =>
    by_cases e : i = j + 1
    · rw [e]; exact Int.le_refl _
    · exact Int.le_trans (tks_step j hj) (ih (by omega) (by omega))
theorem tks_four {k : Nat} (h : k < 21) : 4 ≤ tks k ∧ tks k ≤ 576 :=
  ⟨tks_anti (i := k) (j := 20) (by omega) (by omega), tks_anti (i := 0) (j := k) (by omega) h⟩

/-- The first list of count signs, none ahead of the one at the index, that adds up to the rest. -/
def flL (f : Int → Nat → Option (List Nat)) (c r : Int) : Nat → Option (List Nat)
  | 0 => none
  | m + 1 => if r < tks (20 - m) then flL f c r m else if tks (20 - m) * c < r then none else
      match f (r - tks (20 - m)) (20 - m) with
      | some l => some ((20 - m) :: l)
      | none => flL f c r m
def fl : Nat → Int → Nat → Option (List Nat)
  | 0, r, _ => if r = 0 then some [] else none
  | n + 1, r, i => flL (fl n) (n + 1 : Nat) r (21 - i)
/-- From the sign at i on, for n + 1 signs. -/
def fr (n : Nat) (r : Int) (i : Nat) : Option (List Nat) := flL (fl n) (n + 1 : Nat) r (21 - i)
theorem fl_succ (n : Nat) (r : Int) (i : Nat) : fl (n + 1) r i = fr n r i := rfl
theorem fr_end (n : Nat) (r : Int) : fr n r 21 = none := rfl
theorem fr_step (n : Nat) (r : Int) (i : Nat) (h : i < 21) : fr n r i = if r < tks i then fr n r (i + 1) else if tks i * (n + 1 : Nat) < r then none else
    match fl n (r - tks i) i with
    | some l => some (i :: l)
    | none => fr n r (i + 1) := by
  unfold fr
  have e : 21 - i = (20 - i) + 1 := by omega
  have e2 : 21 - (i + 1) = 20 - i := by omega
  have e3 : 20 - (20 - i) = i := by omega
  rw [e, e2, flL, e3]
theorem fr_long {n : Nat} {r : Int} {i : Nat} (h : i < 21) (h1 : r < tks i) : fr n r i = fr n r (i + 1) := by rw [fr_step n r i h, if_pos h1]
theorem fr_short {n : Nat} {r : Int} {i : Nat} (h : i < 21) (h1 : tks i ≤ r) (h2 : tks i * (n + 1 : Nat) < r) : fr n r i = none := by rw [fr_step n r i h, if_neg (by omega), if_pos h2]
theorem fr_miss {n : Nat} {r : Int} {i : Nat} (h : i < 21) (h1 : tks i ≤ r) (h2 : r ≤ tks i * (n + 1 : Nat)) (h3 : fl n (r - tks i) i = none) : fr n r i = fr n r (i + 1) := by rw [fr_step n r i h, if_neg (by omega), if_neg (by omega), h3]
theorem fr_hit {n : Nat} {r : Int} {i : Nat} {l : List Nat} (h : i < 21) (h1 : tks i ≤ r) (h2 : r ≤ tks i * (n + 1 : Nat)) (h3 : fl n (r - tks i) i = some l) : fr n r i = some (i :: l) := by rw [fr_step n r i h, if_neg (by omega), if_neg (by omega), h3]

def sumT : List Nat → Int
  | [] => 0
  | k :: l => tks k + sumT l
/-- What a found list is. -/
def Way (c : Nat) (r : Int) (i : Nat) (l : List Nat) : Prop := l.length = c ∧ (∀ x ∈ l, i ≤ x ∧ x < 21) ∧ sumT l = r
def asc : List Nat → Prop
  | [] => True
  | k :: l => (∀ x ∈ l, k ≤ x) ∧ asc l
theorem sumT_pos {l : List Nat} (h : ∀ x ∈ l, x < 21) : 4 * (l.length : Int) ≤ sumT l := by
  induction l with
  | nil => exact Int.le_refl _
  | cons k l ih =>
    have h1 := ih fun x hx => h x (List.mem_cons_of_mem _ hx)
    have h2 := tks_four (h k (List.mem_cons_self ..))
    simp only [sumT, List.length_cons]
    omega
theorem fr_head {n : Nat} {r : Int} {i : Nat} {l : List Nat} (h : fr n r i = some l) : ∃ k l', l = k :: l' ∧ i ≤ k ∧ k < 21 ∧ tks k ≤ r ∧ r ≤ tks k * (n + 1 : Nat) ∧ fl n (r - tks k) k = some l' ∧ ∀ j, i ≤ j → j < k → tks j ≤ r → fl n (r - tks j) j = none := by
  obtain ⟨m, hm⟩ : ∃ m, m = 21 - i := ⟨_, rfl⟩
  induction m generalizing i with
  | zero =>
    have : fr n r i = none := by unfold fr; rw [← hm]; rfl
    rw [this] at h
    cases h
  | succ m ih =>
    have hi : i < 21 := by omega
    have next : fr n r (i + 1) = some l → (tks i ≤ r → fl n (r - tks i) i = none) → ∃ k l', l = k :: l' ∧ i ≤ k ∧ k < 21 ∧ tks k ≤ r ∧ r ≤ tks k * (n + 1 : Nat) ∧ fl n (r - tks k) k = some l' ∧ ∀ j, i ≤ j → j < k → tks j ≤ r → fl n (r - tks j) j = none := fun e hn => by
      obtain ⟨k, l', h1, h2, h3, h4, h5, h6, h7⟩ := ih e (by omega)
      exact ⟨k, l', h1, by omega, h3, h4, h5, h6, fun j hj hk ht => by
        by_cases ej : j = i
        · subst ej; exact hn ht
        · exact h7 j (by omega) hk ht⟩
    by_cases h1 : r < tks i
    · rw [fr_long hi h1] at h
      exact next h fun h2 => by omega
    · by_cases h2 : tks i * (n + 1 : Nat) < r
      · rw [fr_short hi (by omega) h2] at h
        cases h
      · cases h3 : fl n (r - tks i) i with
        | none =>
          rw [fr_miss hi (by omega) (by omega) h3] at h
          exact next h fun _ => h3
        | some l' =>
          rw [fr_hit hi (by omega) (by omega) h3] at h
          exact ⟨i, l', by injection h with h; exact h.symm, by omega, hi, by omega, by omega, h3, fun j hj hk => by omega⟩
theorem fl_some {c : Nat} {r : Int} {i : Nat} {l : List Nat} (h : fl c r i = some l) : Way c r i l ∧ asc l := by
  induction c generalizing r i l with
  | zero =>
    simp only [fl] at h
    split at h
    · injection h with h
      subst h
      exact ⟨⟨rfl, fun x hx => absurd hx (by simp), by simpa [sumT] using Eq.symm ‹r = 0›⟩, trivial⟩
    · cases h
  | succ n ih =>
    rw [fl_succ] at h
    obtain ⟨k, l', rfl, h2, h3, h4, h5, h6, h7⟩ := fr_head h
    obtain ⟨⟨a, b, s⟩, d⟩ := ih h6
    refine ⟨⟨by simp [a], fun x hx => ?_, by simp only [sumT]; omega⟩, fun x hx => (b x hx).1, d⟩
    rcases List.mem_cons.1 hx with rfl | hx
    · exact ⟨h2, h3⟩
    · exact ⟨by have := (b x hx).1; omega, (b x hx).2⟩
theorem sumT_erase {l : List Nat} {k : Nat} (h : k ∈ l) : sumT (l.erase k) = sumT l - tks k := by
  induction l with
  | nil => cases h
  | cons j l ih =>
    by_cases e : j = k
    · subst e
      rw [List.erase_cons_head]
      simp only [sumT]
      omega
    · rw [List.erase_cons_tail (by simpa using e)]
      have hk : k ∈ l := by
        rcases List.mem_cons.1 h with rfl | h
        · exact absurd rfl e
        · exact h
      simp only [sumT]
      rw [ih hk]
      omega
theorem sumT_le {l : List Nat} {i : Nat} (hi : ∀ x ∈ l, i ≤ x ∧ x < 21) : sumT l ≤ tks i * (l.length : Int) := by
  induction l with
  | nil => simp [sumT]
  | cons k l ih =>
    have h1 := ih fun x hx => hi x (List.mem_cons_of_mem _ hx)
    have h2 := hi k (List.mem_cons_self ..)
    have h3 := tks_anti h2.1 h2.2
    simp only [sumT, List.length_cons]
    rw [show ((l.length + 1 : Nat) : Int) = (l.length : Int) + 1 by simp, Int.mul_add]
    omega
theorem fl_none {c : Nat} {r : Int} {i : Nat} (h : fl c r i = none) (l : List Nat) : ¬Way c r i l := by
  induction c generalizing r i l with
  | zero =>
    rintro ⟨a, b, s⟩
    obtain rfl : l = [] := List.eq_nil_of_length_eq_zero a
    simp only [sumT] at s
    subst s
    simp [fl] at h
  | succ n ih =>
    rw [fl_succ] at h
    obtain ⟨m, hm⟩ : ∃ m, m = 21 - i := ⟨_, rfl⟩
    induction m generalizing i with
    | zero =>
      rintro ⟨a, b, s⟩
      match l, a with
      | k :: l, _ =>
        have := b k (List.mem_cons_self ..)
        omega
    | succ m ihm =>
      have hi : i < 21 := by omega
      rintro ⟨a, b, s⟩
      have hle : r ≤ tks i * (n + 1 : Nat) := by
        have := sumT_le b
        rw [a, s] at this
        exact this
      by_cases hmem : i ∈ l
      · have hs := sumT_erase hmem
        have hl : (l.erase i).length = n := by rw [List.length_erase_of_mem hmem, a]; rfl
        have hb : ∀ x ∈ l.erase i, i ≤ x ∧ x < 21 := fun x hx => b x (List.mem_of_mem_erase hx)
        have h0 : tks i ≤ r := by
          have := sumT_pos fun x hx => (hb x hx).2
          omega
        cases h3 : fl n (r - tks i) i with
        | none => exact ih h3 (l.erase i) ⟨hl, hb, by omega⟩
        | some l' =>
          rw [fr_hit hi h0 hle h3] at h
          cases h
      · have hb : ∀ x ∈ l, i + 1 ≤ x ∧ x < 21 := fun x hx => by
          have := b x hx
          have hne : x ≠ i := fun e => hmem (e ▸ hx)
          omega
        have next : fr n r (i + 1) = none → False := fun e => ihm e (by omega) ⟨a, hb, s⟩
        by_cases h1 : r < tks i
        · rw [fr_long hi h1] at h
          exact next h
        · cases h3 : fl n (r - tks i) i with
          | none =>
            rw [fr_miss hi (by omega) hle h3] at h
            exact next h
          | some l' =>
            rw [fr_hit hi (by omega) hle h3] at h
            cases h

/-- The first count that finds a list. -/
def sgQc (r : Int) (c : Nat) : Nat → Option (List Nat)
  | 0 => none
  | m + 1 => match fl c r 0 with
    | some l => some l
    | none => sgQc r (c + 1) m
def sgP (r : Int) : Option (List Nat) := sgQc r 0 (r / 4 + 1).toNat
theorem sgQc_some {r : Int} {c m : Nat} {l : List Nat} (h : sgQc r c m = some l) : fl l.length r 0 = some l ∧ c ≤ l.length ∧ ∀ d, c ≤ d → d < l.length → fl d r 0 = none := by
  induction m generalizing c with
  | zero => cases h
  | succ m ih =>
    rw [sgQc] at h
    cases e : fl c r 0 with
    | some l' =>
      rw [e] at h
      injection h with h
      subst h
      have := (fl_some e).1.1
      rw [this]
      exact ⟨e, Nat.le_refl _, fun d _ _ => by omega⟩
    | none =>
      rw [e] at h
      obtain ⟨a, b, d⟩ := ih h
      exact ⟨a, by omega, fun j hj hl => by
        by_cases ej : j = c
        · subst ej; exact e
        · exact d j (by omega) hl⟩
theorem sgP_some {r : Int} {l : List Nat} (h : sgP r = some l) : fl l.length r 0 = some l ∧ Way l.length r 0 l ∧ asc l ∧ ∀ c l', Way c r 0 l' → l.length ≤ c := by
  obtain ⟨a, b, d⟩ := sgQc_some h
  refine ⟨a, (fl_some a).1, (fl_some a).2, fun c l' hw => ?_⟩
  apply Nat.le_of_not_lt
  intro hlt
  exact fl_none (d c (by omega) hlt) l' hw
/-- The fewest signs, -1 where there are none. -/
def lv (r : Int) : Int := match sgP r with
  | some l => l.length
  | none => -1
end Go.Proofs.YtdhjigaocamglaaDoor

/- The reference's list of all signs. -/
namespace Go.Proofs.YtdhjigaocamglaaDoor
open Go Go.RowKit

theorem Own1.stepN {W1 wr w2 w3 : World} {e : TypeId} {size m : Nat} {A : Option Addr} {k c : Nat} {xs ys : List Value} {v' : Value} {O : Obj} {B : Nat} (h : Own1 W1 wr e size A k c xs) (hb : Below wr.heap.size wr w2) (hB : B = W1.heap.size)
    (hown : w3.ownsRow B e size v' m ys) (hg : (w2.alloc O).grownBy w3 (Value.slice A k c).ownBlock) : ∃ A' c', v' = .slice A' m c' ∧ Own1 W1 w3 e size A' m c' ys := by
  subst hB
  obtain ⟨A', c', rfl⟩ := own_slice hown
  have h2 := h.below hb
  refine ⟨A', c', rfl, hown, ?_⟩
  refine Below.grown (h2.low.alloc h2.low.size O) hg (h2.low.alloc h2.low.size O).size (fun g hh => ?_)
  exact (h.own.lt g hh).1

def alL (n : Nat) : List Value := (List.range n).flatMap sgL
end Go.Proofs.YtdhjigaocamglaaDoor
