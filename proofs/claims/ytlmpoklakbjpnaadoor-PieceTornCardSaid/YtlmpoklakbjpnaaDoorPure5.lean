/- Plain functions: the places that sound a pitch, as both the program and its reference find them. No program is imported here. -/
import Derived.Test.YtlmpoklakbjpnaaDoorPure3
namespace Go.Proofs.YtlmpoklakbjpnaaDoor

/-- From fret q on, k frets: those of course i that sound p. -/
def frsL (S : List Int) (x : Cr) (p : Int) (i : Nat) : Nat → Nat → List (Int × Int)
  | _, 0 => []
  | q, k + 1 => (if x.p + riseV S q = p then [((i : Int), (q : Int))] else []) ++ frsL S x p i (q + 1) k
/-- The courses from the i-th on (from 0). -/
def plsL (S : List Int) (p : Int) : Nat → List Cr → List (Int × Int)
  | _, [] => []
  | i, x :: r => frsL S x p (i + 1) 0 (x.f.toNat + 1) ++ plsL S p (i + 1) r
def plE (C : List Cr) (S : List Int) (p : Int) : Int := if chk C S ≠ 0 then chk C S else if isP p = false then 10 else 0
def plL (C : List Cr) (S : List Int) (p : Int) : List (Int × Int) := if plE C S p = 0 then plsL S p 0 C else []
theorem pl_chk {C : List Cr} {S : List Int} {p : Int} (h : chk C S ≠ 0) : plE C S p = chk C S ∧ plL C S p = [] := by
  have : plE C S p = chk C S := by rw [plE, if_pos h]
  exact ⟨this, by rw [plL, if_neg (by rw [this]; exact h)]⟩
theorem pl_pitch {C : List Cr} {S : List Int} {p : Int} (h : chk C S = 0) (h2 : isP p = false) : plE C S p = 10 ∧ plL C S p = [] := by
  have : plE C S p = 10 := by rw [plE, if_neg (by rw [h]; simp), if_pos h2]
  exact ⟨this, by rw [plL, if_neg (by rw [this]; decide)]⟩
theorem pl_ok {C : List Cr} {S : List Int} {p : Int} (h : chk C S = 0) (h2 : isP p = true) : plE C S p = 0 ∧ plL C S p = plsL S p 0 C := by
  have : plE C S p = 0 := by rw [plE, if_neg (by rw [h]; simp), if_neg (by rw [h2]; simp)]
  exact ⟨this, by rw [plL, if_pos this]⟩

theorem frsL_len (S : List Int) (x : Cr) (p : Int) (i : Nat) : ∀ (k q : Nat), (frsL S x p i q k).length ≤ k
  | 0, _ => by simp [frsL]
  | k + 1, q => by
    have := frsL_len S x p i k (q + 1)
    unfold frsL
    split <;> simp <;> omega
theorem plsL_len (S : List Int) (p : Int) (F : Nat) : ∀ (C : List Cr) (i : Nat), (∀ x ∈ C, x.f.toNat ≤ F) → (plsL S p i C).length ≤ C.length * (F + 1)
  | [], _, _ => by simp [plsL]
  | x :: r, i, h => by
    have h1 := frsL_len S x p (i + 1) (x.f.toNat + 1) 0
    have h2 := plsL_len S p F r (i + 1) fun y hy => h y (by simp [hy])
    have h3 := h x (by simp)
    unfold plsL
    rw [List.length_append, List.length_cons, Nat.add_mul]
    omega

end Go.Proofs.YtlmpoklakbjpnaaDoor
