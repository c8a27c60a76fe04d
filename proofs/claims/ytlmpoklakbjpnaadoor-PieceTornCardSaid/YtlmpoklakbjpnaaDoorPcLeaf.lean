/- Pieces: is an event a rest, has it a stop on a course, in the program and in the reference. -/
import Derived.Test.YtlmpoklakbjpnaaDoorPc
import Derived.Laws.EntriesVeiled
namespace Go.Proofs.YtlmpoklakbjpnaaDoor
open Go Go.RowKit

set_option maxHeartbeats 1600000 in
theorem isRest_any (y : EvP) (sa : Option Addr) (sc : Nat) (w : World) : Calls Tryd.prog 102 #[evV y.bar y.v y.d y.t y.tie sa y.L.length sc] w fun e w' => e = .returned (.bool (restB y)) ∧ Below w.heap.size w w' := by
  have H : Hid (restB y = (decide (y.L.length = 0) && !y.tie)) := rfl
  generalize y.L.length = n at *
  cases ht : y.tie <;> rw [ht] at H
  · by_cases h : n = 0
    · subst h
      go_enter Tryd.func102, Tryd.ntmps102
      go_wp2_with (fail)
      go_ret
      exact ⟨ret_b (by rw [H.out]; rfl), ba _ _⟩
    · have h2 : ((n : Int) == 0) = false := by simpa using h
      go_enter Tryd.func102, Tryd.ntmps102
      go_wp2_with (fail)
      go_ret
      exact ⟨ret_b (by rw [H.out]; simp [h]), ba _ _⟩
  · by_cases h : n = 0
    · subst h
      go_enter Tryd.func102, Tryd.ntmps102
      go_wp2_with (fail)
      go_ret
      exact ⟨ret_b (by rw [H.out]; rfl), ba _ _⟩
    · have h2 : ((n : Int) == 0) = false := by simpa using h
      go_enter Tryd.func102, Tryd.ntmps102
      go_wp2_with (fail)
      go_ret
      exact ⟨ret_b (by rw [H.out]; simp), ba _ _⟩

end Go.Proofs.YtlmpoklakbjpnaaDoor
