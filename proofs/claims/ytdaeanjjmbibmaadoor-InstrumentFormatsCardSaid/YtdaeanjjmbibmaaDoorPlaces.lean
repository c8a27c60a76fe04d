/- What the program's Places returns for any instrument and pitch. -/
import Derived.Test.YtdaeanjjmbibmaaDoorGrow
namespace Go.Proofs.YtdaeanjjmbibmaaDoor
open Go.RowKit

/-- What holds of a valid instrument's course. -/
theorem chk_course {C : List Cr} {S : List Int} (h : chk C S = 0) (k : Nat) (hk : k < C.length) : 0 ≤ (C.getD k z0).p ∧ (C.getD k z0).p ≤ 127 ∧ 0 ≤ (C.getD k z0).f ∧ (C.getD k z0).f ≤ S.length ∧ S.length ≤ 18 ∧ C.length ≤ 14 := by
  obtain ⟨h1, h2, _, hce⟩ := chk_ok h
  obtain ⟨x1, x2, x3, x4, _⟩ := crErr_ok (crsErr_mem hce _ (getD_mem C k hk))
  exact ⟨x3, x4, x1, x2, h2, h1⟩

theorem plL_len (C : List Cr) (S : List Int) (p : Int) : (plL C S p).length ≤ 9223372036854775807 := by
  unfold plL
  split
  · rename_i h
    have h0 : chk C S = 0 := by
      by_cases h0 : chk C S = 0
      · exact h0
      · rw [(pl_chk h0).1] at h; exact absurd h h0
    obtain ⟨h1, h2, _, hce⟩ := chk_ok h0
    have := plsL_len S p 18 C 0 fun x hx => by
      obtain ⟨_, h4, _⟩ := crErr_ok (crsErr_mem hce x hx)
      omega
    omega
  · simp

end Go.Proofs.YtdaeanjjmbibmaaDoor
