/- Piece: Check of the small piece that law 02 looks at. -/
import Derived.Test.YtncgikfalimnjaaDoorOnsets
namespace Go.Proofs.YtncgikfalimnjaaDoor
open Go Go.RowKit

abbrev e0W (sk : Nat) : EvT := ⟨false, 3, false, false, false, some ⟨sk, 0, none⟩, 1, 1⟩
abbrev e1W : EvT := ⟨false, 4, false, false, true, none, 0, 0⟩
abbrev evW (x : EvT) : Value := .agg #[.bool x.bar, .int .i64 x.v, .bool x.d, .bool x.t, .bool x.tie, .slice x.sa x.sn x.sc]

set_option maxHeartbeats 1600000 in
theorem isRest_e1 (w : World) : Calls Tryd.prog 61 #[evW e1W] w fun e w' => e = .returned (.bool false) ∧ Below w.heap.size w w' := by
  go_enter Tryd.func61, Tryd.ntmps61
  go_wp2_with (fail)
  go_ret
  exact ⟨rfl, ba _ _⟩
set_option maxHeartbeats 1600000 in
theorem indexFunc_nil (fv : Value) (w : World) : Calls Tryd.prog 120 #[.slice none 0 0, fv] w fun e w' => e = .returned (.int .i64 (-1)) ∧ Below w.heap.size w w' := by
  go_enter Tryd.func120, Tryd.ntmps120
  go_wp2_with (fail)
  refine wp_loop_rounds 1 ?_
  rw [rounds_succ]
  go_wp2_with (fail)
  go_ret
  exact ⟨rfl, Below.refl _ _⟩
set_option maxHeartbeats 1600000 in
theorem containsFunc_nil (fv : Value) (w : World) : Calls Tryd.prog 100 #[.slice none 0 0, fv] w fun e w' => e = .returned (.bool false) ∧ Below w.heap.size w w' := by
  go_enter Tryd.func100, Tryd.ntmps100
  go_wp2_with (go_at_call 120; refine (indexFunc_nil _ _).mono ?_; rintro e w1 ⟨rfl, hb1⟩)
  go_ret
  exact ⟨rfl, hb1⟩
set_option maxHeartbeats 1600000 in
theorem hasStop_e1 (c : Int) (w : World) : Calls Tryd.prog 62 #[evW e1W, .int .i64 c] w fun e w' => e = .returned (.bool false) ∧ Below w.heap.size w w' := by
  have hmf : ∀ (fn : Fn) (first cap : Array Value) (w : World), (Instr.makeFunc fn first cap).run Tryd.prog w = .ok (.func fn first cap) w := fun _ _ _ _ => rfl
  go_enter Tryd.func62, Tryd.ntmps62
  go_wp2_with (go_at_call 100; refine (containsFunc_nil _ _).mono ?_; rintro e w1 ⟨rfl, hb1⟩)
  go_ret
  exact ⟨rfl, by first | exact bx (bx hb1) | exact bx hb1⟩

end Go.Proofs.YtncgikfalimnjaaDoor
