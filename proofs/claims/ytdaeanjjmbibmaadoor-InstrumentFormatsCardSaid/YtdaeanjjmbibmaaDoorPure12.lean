/- Plain facts: how the reference cuts a text at its spaces, and the word of a course at its slash. -/
import Derived.Test.YtdaeanjjmbibmaaDoorParse2
namespace Go.Proofs.YtdaeanjjmbibmaaDoor

def wrdA : List UInt8 → List UInt8 → List (List UInt8)
  | a, [] => [a]
  | a, c :: r => if c = 32 then a :: wrdA [] r else wrdA (a ++ [c]) r
theorem wrdA_wrd : ∀ (l a : List UInt8), wrdA a l = match wrd l with | [] => [a] | x :: xs => (a ++ x) :: xs
  | [], a => by simp [wrdA, wrd]
  | c :: r, a => by
    unfold wrdA wrd
    by_cases hc : c = 32
    · rw [if_pos hc, if_pos hc, wrdA_wrd r []]
      cases h : wrd r <;> simp
      exact absurd h (by cases r with
        | nil => simp [wrd]
        | cons d s => unfold wrd; split <;> (try simp); split <;> simp)
    · rw [if_neg hc, if_neg hc, wrdA_wrd r (a ++ [c])]
      cases h : wrd r <;> simp
theorem wrd_ne (l : List UInt8) : wrd l ≠ [] := by
  cases l with
  | nil => simp [wrd]
  | cons d s => unfold wrd; split <;> (try simp); split <;> simp
theorem wrdA_nil (l : List UInt8) : wrdA [] l = wrd l := by
  rw [wrdA_wrd]
  cases h : wrd l with
  | nil => exact absurd h (wrd_ne l)
  | cons x xs => rfl
/-- One step of the reference's loop. -/
theorem wrdA_sep {l : List UInt8} {a : List UInt8} {D : List (List UInt8)} {i : Nat} (h : wrd l = D ++ wrdA a (l.drop i)) (hi : i < l.length) (hc : l[i] = 32) : wrd l = (D ++ [a]) ++ wrdA [] (l.drop (i + 1)) := by
  rw [h, List.drop_eq_getElem_cons hi, wrdA, if_pos hc]; simp
theorem wrdA_go {l : List UInt8} {a : List UInt8} {D : List (List UInt8)} {i : Nat} (h : wrd l = D ++ wrdA a (l.drop i)) (hi : i < l.length) (hc : l[i] ≠ 32) : wrd l = D ++ wrdA (a ++ [l[i]]) (l.drop (i + 1)) := by
  rw [h, List.drop_eq_getElem_cons hi, wrdA, if_neg hc]
theorem wrdA_end {l : List UInt8} {a : List UInt8} {D : List (List UInt8)} {i : Nat} (h : wrd l = D ++ wrdA a (l.drop i)) (hi : l.length ≤ i) : wrd l = D ++ [a] := by
  rw [h, List.drop_of_length_le hi, wrdA]

/-- Where the first slash is, or the end. -/
def slA : List UInt8 → Nat
  | [] => 0
  | c :: r => if c = 47 then 0 else slA r + 1
theorem slA_le : ∀ l, slA l ≤ l.length
  | [] => Nat.le_refl _
  | c :: r => by
    have := slA_le r
    unfold slA
    split <;> simp <;> omega
theorem slA_at : ∀ (l : List UInt8) (k : Nat), k ≤ slA l → (k = slA l ∧ (k = l.length ∨ l[k]? = some 47)) ∨ (k < slA l ∧ k < l.length ∧ ∃ c, l[k]? = some c ∧ c ≠ 47)
  | [], k, h => by simp [slA] at h ⊢; omega
  | c :: r, k, h => by
    unfold slA at h ⊢
    by_cases hc : c = 47
    · rw [if_pos hc] at h ⊢
      obtain rfl : k = 0 := by omega
      left; exact ⟨rfl, .inr (by simp [hc])⟩
    · rw [if_neg hc] at h ⊢
      cases k with
      | zero => right; exact ⟨by omega, by simp, c, by simp, hc⟩
      | succ k =>
        rcases slA_at r k (by omega) with ⟨h1, h2⟩ | ⟨h1, h2, h3⟩
        · left; refine ⟨by omega, ?_⟩
          rcases h2 with h2 | h2
          · left; simp; omega
          · right; simpa using h2
        · right; exact ⟨by omega, by simp; omega, by simpa using h3⟩
theorem idx_slA : ∀ l : List UInt8, Lib.index l [47] = if slA l < l.length then (slA l : Int) else -1
  | [] => rfl
  | c :: r => by
    rw [Lib.index_one]
    unfold Lib.indexByte slA
    have ih := idx_slA r
    rw [Lib.index_one] at ih
    by_cases hc : c = 47
    · subst hc; simp
    · have hcb : (c == 47) = false := by simpa using hc
      rw [hcb, ih, if_neg hc]
      by_cases hl : slA r < r.length
      · simp [hl]; try omega
      · simp [hl]
theorem cut_no {l : List UInt8} (h : slA l = l.length) : Lib.cut l [47] = (l, [], false) := by
  have e : Lib.index l [47] = -1 := by rw [idx_slA, if_neg (by omega)]
  unfold Lib.cut
  rw [e]; rfl
theorem cut_yes {l : List UInt8} (h : slA l < l.length) : Lib.cut l [47] = (l.take (slA l), l.drop (slA l + 1), true) := by
  have e : Lib.index l [47] = slA l := by rw [idx_slA, if_pos h]
  unfold Lib.cut
  rw [e, if_pos (by omega)]; simp
theorem slA_snoc : ∀ t : List UInt8, slA (t ++ [43]) = if slA t < t.length then slA t else t.length + 1
  | [] => rfl
  | c :: r => by
    have ih := slA_snoc r
    simp only [List.cons_append, slA, ih, List.length_cons]
    by_cases hc : c = 47
    · simp [hc]
    · simp only [if_neg hc]
      by_cases hl : slA r < r.length
      · simp [hl]
      · simp [hl]

/-- The parts of a course's word whose last byte is a plus: t is what stands ahead of it. -/
theorem crs_plus {t : List UInt8} (h : slA t < t.length) : crsN (t ++ [43]) = t.take (slA t) ∧ crsD (t ++ [43]) = t.drop (slA t + 1) ∧ crsW (t ++ [43]) = numB (t.drop (slA t + 1)) ∧ Lib.hasSuffix (crsR (t ++ [43])) [43] = true := by
  have hs : slA (t ++ [43]) = slA t := by rw [slA_snoc, if_pos h]
  have hc := cut_yes (l := t ++ [43]) (by rw [hs]; simp; omega)
  rw [hs] at hc
  have e1 : (t ++ [43]).take (slA t) = t.take (slA t) := by rw [List.take_append_of_le_length (by omega)]
  have e2 : (t ++ [43]).drop (slA t + 1) = t.drop (slA t + 1) ++ [43] := by rw [List.drop_append_of_le_length (by omega)]
  rw [e1, e2] at hc
  have hR : crsR (t ++ [43]) = t.drop (slA t + 1) ++ [43] := by rw [crsR, hc]
  have hD : crsD (t ++ [43]) = t.drop (slA t + 1) := by
    have hsu : Lib.hasSuffix (t.drop (slA t + 1) ++ [43]) [43] = true := by simp [Lib.hasSuffix]
    rw [crsD, hR, Lib.trimSuffix, if_pos hsu]
    simp
  refine ⟨by rw [crsN, hc], hD, by rw [crsW, hc, hD]; simp, by rw [hR]; simp [Lib.hasSuffix]⟩
theorem crs_plus_no {t : List UInt8} (h : slA t = t.length) : crsW (t ++ [43]) = false := by
  have hc := cut_no (l := t ++ [43]) (by rw [slA_snoc, if_neg (by omega)]; simp)
  rw [crsW, hc]; simp
/-- The parts of a course's word whose last byte is no plus. -/
theorem crs_bare {l : List UInt8} (hl : l.getLast? ≠ some 43) (h : slA l < l.length) : crsN l = l.take (slA l) ∧ crsD l = l.drop (slA l + 1) ∧ crsW l = numB (l.drop (slA l + 1)) ∧ Lib.hasSuffix (crsR l) [43] = false := by
  have hc := cut_yes h
  have hR : crsR l = l.drop (slA l + 1) := by rw [crsR, hc]
  have hsu : Lib.hasSuffix (l.drop (slA l + 1)) [43] = false := by
    cases hs : Lib.hasSuffix (l.drop (slA l + 1)) [43] with
    | false => rfl
    | true =>
      refine absurd ?_ hl
      unfold Lib.hasSuffix at hs
      obtain ⟨u, hu⟩ := List.isSuffixOf_iff_suffix.1 hs
      rw [← List.take_append_drop (slA l + 1) l, ← hu]
      simp [List.getLast?_append]
  have hD : crsD l = l.drop (slA l + 1) := by
    rw [crsD, hR, Lib.trimSuffix, hsu]; rfl
  exact ⟨by rw [crsN, hc], hD, by rw [crsW, hc, hD]; simp, by rw [hR]; exact hsu⟩
theorem crs_bare_no {l : List UInt8} (h : slA l = l.length) : crsW l = false := by
  rw [crsW, cut_no h]; rfl
theorem crs_form {l : List UInt8} (h : crsW l = false) : crsE l = 4 ∧ crsP l = 0 ∧ crsF l = 0 ∧ crsO l = false := by
  have he : crsE l = 4 := by simp [crsE, h]
  exact ⟨he, by simp [crsP, he], by simp [crsF, he], by simp [crsO, he]⟩

end Go.Proofs.YtdaeanjjmbibmaaDoor
