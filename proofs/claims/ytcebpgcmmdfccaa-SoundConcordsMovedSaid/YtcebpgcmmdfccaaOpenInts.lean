/- A slice of numbers as an argument, opened. -/
import Derived.Test.YtcebpgcmmdfccaaOpenIn
namespace Go.Proofs.Ytcebpgcmmdfccaa
open Go.ChangeShapes Go.WideShapes Go.ChangeAt Go.RowKit Go.Deep Go.Joins

section
variable {H : Type} {enc : TypeId × Value → H} {W : World} {base : Nat} {sp : Nat → Bool} {held : Bool}
set_option maxRecDepth 100000 in
theorem open_intsV {r : Reach} {b0 : Nat} {v : Value} {d : DataW H} {p : List MemPlace} (hv : Value.okWide Try.prog W r b0 23 v) (h : DataW.Trod enc Try.prog W base sp held 23 v d p) :
    ∃ A n c L, v = .slice A n c ∧ Sl W W.heap.size 1 A n c (intC L) ∧ n = L.length ∧ c ≤ maxLen := by
  obtain ⟨a, l, c, rfl⟩ := okWide_slice Try.underlying23 hv
  obtain ⟨fuel, hf⟩ := h
  obtain ⟨A, n, c', S, e, s, h1, h2⟩ := open_steps hf
  obtain ⟨rfl, rfl, rfl⟩ : a = A ∧ l = n ∧ c = c' := by simpa [Value.cells] using e
  exact ⟨a, l, c, S, rfl, s, h1, h2⟩
end
end Go.Proofs.Ytcebpgcmmdfccaa
