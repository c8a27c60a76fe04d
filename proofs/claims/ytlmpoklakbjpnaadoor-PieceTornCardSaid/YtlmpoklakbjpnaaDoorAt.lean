/- What the program's At returns for any instrument and place. -/
import Derived.Test.YtlmpoklakbjpnaaDoorCheckAll
namespace Go.Proofs.YtlmpoklakbjpnaaDoor
open Go.RowKit

def hasB (n : Nat) (pc : Int) : Bool := decide (1 ≤ pc) && decide (pc ≤ n)
def atE (C : List Cr) (S : List Int) (pc pf : Int) : Int :=
  if chk C S ≠ 0 then chk C S else if hasB C.length pc = false then 12 else if pf < 0 ∨ (C.getD (pc - 1).toNat z0).f < pf then 13 else 0
def atP (C : List Cr) (S : List Int) (pc pf : Int) : Int := if atE C S pc pf = 0 then (C.getD (pc - 1).toNat z0).p + riseV S pf else 0

theorem chk_ok {C : List Cr} {S : List Int} (h : chk C S = 0) : C.length ≤ 14 ∧ S.length ≤ 18 ∧ riseB 0 S = true ∧ crsErr S C = 0 := by
  unfold chk at h
  by_cases h1 : 14 < C.length ∨ 18 < S.length
  · rw [if_pos h1] at h; cases h
  · rw [if_neg h1] at h
    by_cases h2 : C.length = 0 ∨ riseB 0 S = false
    · rw [if_pos h2] at h; cases h
    · rw [if_neg h2] at h
      refine ⟨by omega, by omega, ?_, h⟩
      cases hr : riseB 0 S with
      | true => rfl
      | false => exact absurd (.inr hr) h2
theorem crsErr_mem {S : List Int} : ∀ {C : List Cr}, crsErr S C = 0 → ∀ c ∈ C, crErr S c = 0
  | [], _, c, hc => by cases hc
  | x :: r, h, c, hc => by
    unfold crsErr at h
    by_cases hx : crErr S x = 0
    · rw [if_pos hx] at h
      rcases List.mem_cons.1 hc with rfl | hc
      · exact hx
      · exact crsErr_mem h c hc
    · rw [if_neg hx] at h; exact absurd h hx
theorem crErr_ok {S : List Int} {c : Cr} (h : crErr S c = 0) : 0 ≤ c.f ∧ c.f ≤ S.length ∧ 0 ≤ c.p ∧ c.p ≤ 127 ∧ crTop S c ≤ 127 := by
  by_cases h1 : c.f < 0 ∨ (S.length : Int) < c.f
  · rw [crErr_fret h1] at h; cases h
  · cases h2 : isP c.p with
    | false => rw [crErr_pitch (by omega) h2] at h; cases h
    | true =>
      rw [crErr_top (by omega) h2] at h
      have := isP_iff.1 h2
      split at h
      · cases h
      · omega
theorem getD_mem (C : List Cr) (k : Nat) (h : k < C.length) : C.getD k z0 ∈ C := by
  have e : C.getD k z0 = C[k] := by rw [List.getD_eq_getElem?_getD, List.getElem?_eq_getElem h]; rfl
  rw [e]; exact List.getElem_mem h

theorem balA {w W : World} (h : Below w.heap.size w W) (o : Obj) : Below w.heap.size w (W.alloc o) := h.alloc h.size o
theorem ret_ii {k k2 : IntKind} {a b c d : Int} (h : a = b) (he : c = d) : Ending.returned (.tuple #[.int k a, .int k2 c]) = .returned (.tuple #[.int k b, .int k2 d]) := by rw [h, he]
theorem at_chk {C : List Cr} {S : List Int} {pc pf : Int} (h : chk C S ≠ 0) : atE C S pc pf = chk C S ∧ atP C S pc pf = 0 := by
  have : atE C S pc pf = chk C S := by rw [atE, if_pos h]
  exact ⟨this, by rw [atP, if_neg (by rw [this]; exact h)]⟩
theorem at_has {C : List Cr} {S : List Int} {pc pf : Int} (h : chk C S = 0) (h2 : hasB C.length pc = false) : atE C S pc pf = 12 ∧ atP C S pc pf = 0 := by
  have : atE C S pc pf = 12 := by rw [atE, if_neg (by rw [h]; simp), if_pos h2]
  exact ⟨this, by rw [atP, if_neg (by rw [this]; decide)]⟩
theorem at_fret {C : List Cr} {S : List Int} {pc pf : Int} (h : chk C S = 0) (h2 : hasB C.length pc = true) (h3 : pf < 0 ∨ (C.getD (pc - 1).toNat z0).f < pf) : atE C S pc pf = 13 ∧ atP C S pc pf = 0 := by
  have : atE C S pc pf = 13 := by rw [atE, if_neg (by rw [h]; simp), if_neg (by rw [h2]; simp), if_pos h3]
  exact ⟨this, by rw [atP, if_neg (by rw [this]; decide)]⟩
theorem at_ok {C : List Cr} {S : List Int} {pc pf : Int} (h : chk C S = 0) (h2 : hasB C.length pc = true) (h3 : ¬ (pf < 0 ∨ (C.getD (pc - 1).toNat z0).f < pf)) : atE C S pc pf = 0 ∧ atP C S pc pf = (C.getD (pc - 1).toNat z0).p + riseV S pf := by
  have : atE C S pc pf = 0 := by rw [atE, if_neg (by rw [h]; simp), if_neg (by rw [h2]; simp), if_neg h3]
  exact ⟨this, by rw [atP, if_pos this]⟩

end Go.Proofs.YtlmpoklakbjpnaaDoor
