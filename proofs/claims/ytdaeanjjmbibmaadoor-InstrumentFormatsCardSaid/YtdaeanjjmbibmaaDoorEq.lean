/- What slices.Equal returns at courses and at numbers: whether the two lists are one. -/
import Derived.Test.YtdaeanjjmbibmaaDoorCopy
namespace Go.Proofs.YtdaeanjjmbibmaaDoor
open Go.RowKit

def crEqB (x y : Cr) : Bool := decide (x.p = y.p) && (decide (x.f = y.f) && (x.o == y.o))
def eqC : List Cr → List Cr → Bool
  | [], [] => true
  | x :: r, y :: s => crEqB x y && eqC r s
  | _, _ => false
def eqI : List Int → List Int → Bool
  | [], [] => true
  | x :: r, y :: s => decide (x = y) && eqI r s
  | _, _ => false
theorem eqC_len : ∀ (C D : List Cr), C.length ≠ D.length → eqC C D = false
  | [], [], h => absurd rfl h
  | [], _ :: _, _ => rfl
  | _ :: _, [], _ => rfl
  | x :: r, y :: s, h => by
    unfold eqC
    rw [eqC_len r s (by simpa using h)]
    simp
theorem eqI_len : ∀ (C D : List Int), C.length ≠ D.length → eqI C D = false
  | [], [], h => absurd rfl h
  | [], _ :: _, _ => rfl
  | _ :: _, [], _ => rfl
  | x :: r, y :: s, h => by
    unfold eqI
    rw [eqI_len r s (by simpa using h)]
    simp
theorem crEqB_no {p f p' f' : Int} {o o' : Bool} (hxy : crEqB ⟨p, f, o⟩ ⟨p', f', o'⟩ = false) : ¬ p = p' ∨ (p = p' ∧ ¬ f = f') ∨ (p = p' ∧ f = f' ∧ ¬ o = o') := by
  simp only [crEqB, Bool.and_eq_false_iff, decide_eq_false_iff_not, beq_eq_false_iff_ne] at hxy
  by_cases g1 : p = p'
  · by_cases g2 : f = f'
    · exact .inr (.inr ⟨g1, g2, by rcases hxy with h | h | h; exact absurd g1 h; exact absurd g2 h; exact h⟩)
    · exact .inr (.inl ⟨g1, g2⟩)
  · exact .inl g1
theorem crEqB_refl (x : Cr) : crEqB x x = true := by simp [crEqB]
theorem eqC_refl : ∀ C : List Cr, eqC C C = true
  | [] => rfl
  | x :: r => by unfold eqC; rw [crEqB_refl, eqC_refl r]; rfl
theorem eqI_refl : ∀ C : List Int, eqI C C = true
  | [] => rfl
  | x :: r => by unfold eqI; rw [eqI_refl r]; simp
theorem eqC_step {C D : List Cr} {k : Nat} (h : eqC C D = eqC (C.drop k) (D.drop k)) (h1 : k < C.length) (h2 : k < D.length) : eqC C D = (crEqB (C.getD k z0) (D.getD k z0) && eqC (C.drop (k + 1)) (D.drop (k + 1))) := by
  rw [h, drop_consC C k h1, drop_consC D k h2]; rfl
theorem eqI_step {C D : List Int} {k : Nat} (h : eqI C D = eqI (C.drop k) (D.drop k)) (h1 : k < C.length) (h2 : k < D.length) : eqI C D = (decide (C.getD k 0 = D.getD k 0) && eqI (C.drop (k + 1)) (D.drop (k + 1))) := by
  rw [h, drop_cons C k h1, drop_cons D k h2]; rfl

end Go.Proofs.YtdaeanjjmbibmaaDoor
