/- Plain lists: a text is split at each space into words; where a word stands among them. -/
import Derived.Lib.Split
import Derived.Lib.SplitLaws
import Derived.Lib.SlicesS
import Derived.Test.YtdaeanjjmbibmaaDoorPure3
namespace Go.Proofs.YtdaeanjjmbibmaaDoor

/-- What stands between spaces. -/
def wrd : List UInt8 → List (List UInt8)
  | [] => [[]]
  | c :: r => if c = 32 then [] :: wrd r else match wrd r with
    | [] => [[c]]
    | x :: xs => (c :: x) :: xs

theorem index32_nil : Lib.index [] [32] = -1 := rfl
theorem index32_hit (r : List UInt8) : Lib.index (32 :: r) [32] = 0 := by simp [Lib.index]
theorem index32_go (c : UInt8) (r : List UInt8) (h : c ≠ 32) : Lib.index (c :: r) [32] = if Lib.index r [32] == -1 then -1 else Lib.index r [32] + 1 := by
  have : ¬ (32 : UInt8) = c := fun e => h e.symm
  simp [Lib.index, this]
theorem countF : ∀ (s : List UInt8) (f : Nat), s.length < f → Lib.countFrom [32] f s = s.count 32
  | _, 0, h => by omega
  | [], f + 1, _ => by simp [Lib.countFrom, Lib.index]
  | c :: r, f + 1, h => by
    by_cases hc : c = 32
    · subst hc
      rw [Lib.countFrom, index32_hit]
      have := countF r f (by simp at h; omega)
      simp [this]; omega
    · have ih := countF r (f + 1) (by simp at h; omega)
      rw [Lib.countFrom, index32_go c r hc]
      rw [Lib.countFrom] at ih
      have hge := Lib.index_ge r [32]
      by_cases hi : Lib.index r [32] = -1
      · simp [hi] at ih ⊢
        rw [List.count_cons_of_ne (by simpa using hc)]; exact ih
      · have hi' : (Lib.index r [32] == -1) = false := by simpa using hi
        have h1 : (Lib.index r [32] + 1 == -1) = false := by simp; omega
        rw [hi'] at ih ⊢
        simp only [Bool.false_eq_true, if_false] at ih ⊢
        rw [h1]
        simp only [Bool.false_eq_true, if_false]
        rw [List.count_cons_of_ne (by simpa using hc), ← ih]
        rw [show (Lib.index r [32] + 1).toNat + [(32 : UInt8)].length = ((Lib.index r [32]).toNat + [(32 : UInt8)].length) + 1 from by simp; omega, List.drop_succ_cons]

theorem index32_mem : ∀ (r : List UInt8), Lib.index r [32] ≠ -1 → 1 ≤ r.count 32
  | [], h => absurd rfl h
  | c :: r, h => by
    by_cases hc : c = 32
    · subst hc; simp
    · rw [index32_go c r hc] at h
      by_cases hi : Lib.index r [32] = -1
      · simp [hi] at h
      · have := index32_mem r hi
        rw [List.count_cons_of_ne (by simpa using hc)]; exact this

theorem splitK_wrd : ∀ (s : List UInt8) (k : Nat), s.count 32 ≤ k → Lib.splitK [32] 0 k s = wrd s
  | [], 0, _ => rfl
  | [], k + 1, _ => by rw [Lib.splitK]; rfl
  | c :: r, k, h => by
    by_cases hc : c = 32
    · subst hc
      rw [List.count_cons_self] at h
      obtain ⟨k, rfl⟩ : ∃ j, k = j + 1 := ⟨k - 1, by omega⟩
      rw [Lib.splitK, index32_hit]
      have := splitK_wrd r k (by omega)
      simp [wrd, this]
    · rw [List.count_cons_of_ne (by simpa using hc)] at h
      have ih := splitK_wrd r k h
      rw [wrd, if_neg hc, ← ih]
      by_cases hi : Lib.index r [32] = -1
      · have h2 : Lib.index (c :: r) [32] = -1 := by rw [index32_go c r hc]; simp [hi]
        cases k with
        | zero => rfl
        | succ k =>
          rw [Lib.splitK, Lib.splitK]
          simp [hi, h2]
      · have hm := index32_mem r hi
        obtain ⟨k, rfl⟩ : ∃ j, k = j + 1 := ⟨k - 1, by omega⟩
        have hge := Lib.index_ge r [32]
        have hi' : (Lib.index r [32] == -1) = false := by simpa using hi
        have h2 : Lib.index (c :: r) [32] = Lib.index r [32] + 1 := by rw [index32_go c r hc]; simp [hi]
        have h1 : (Lib.index r [32] + 1 == -1) = false := by simp; omega
        rw [Lib.splitK, Lib.splitK, h2, h1, hi']
        simp only [Bool.false_eq_true, if_false]
        rw [show (Lib.index r [32] + 1).toNat + 0 = ((Lib.index r [32]).toNat + 0) + 1 from by omega, List.take_succ_cons,
          show (Lib.index r [32] + 1).toNat + [(32 : UInt8)].length = ((Lib.index r [32]).toNat + [(32 : UInt8)].length) + 1 from by simp; omega, List.drop_succ_cons]
        rfl

/-- Where the first word is that is a colon. -/
def preOf : List (List UInt8) → Nat
  | [] => 0
  | x :: r => if x = [58] then 0 else preOf r + 1
theorem preOf_le : ∀ l, preOf l ≤ l.length
  | [] => Nat.le_refl _
  | x :: r => by
    have := preOf_le r
    unfold preOf
    split <;> simp <;> omega
theorem preOf_hit : ∀ (l : List (List UInt8)), preOf l < l.length → l.getD (preOf l) [] = [58]
  | [], h => by simp at h
  | x :: r, h => by
    unfold preOf at h ⊢
    by_cases hx : x = [58]
    · simp [hx]
    · rw [if_neg hx] at h ⊢
      have := preOf_hit r (by simpa using h)
      simpa using this
theorem preOf_before : ∀ (l : List (List UInt8)) (j : Nat), j < preOf l → l.getD j [] ≠ [58]
  | [], j, h => by simp [preOf] at h
  | x :: r, j, h => by
    unfold preOf at h
    by_cases hx : x = [58]
    · simp [hx] at h
    · rw [if_neg hx] at h
      cases j with
      | zero => simpa using hx
      | succ j => simpa using preOf_before r j (by omega)

end Go.Proofs.YtdaeanjjmbibmaaDoor
