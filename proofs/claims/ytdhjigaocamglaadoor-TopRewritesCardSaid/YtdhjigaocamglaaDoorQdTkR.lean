/- Piece: Right and Ticks of the reference, for any sign. -/
import Derived.Test.YtdhjigaocamglaaDoorQdTk
namespace Go.Proofs.YtdhjigaocamglaaDoor
open Go.RowKit

set_option maxRecDepth 100000 in
set_option maxHeartbeats 1600000 in
theorem rRight_any (v : Int) (d t : Bool) (w : World) : Calls Tryd.prog 72 #[sg v d t] w fun e w' => e = .returned (.bool (!wrB v d t || okB v d t)) ∧ Below w.heap.size w w' := by
  by_cases h0 : v = 0
  · subst h0
    cases d <;> cases t <;> (go_enter Tryd.func72, Tryd.ntmps72; go_wp2_with (fail); go_ret; exact ⟨ret_b rfl, ba _ _⟩)
  · have g0 : (v == 0) = false := by simpa using h0
    have HO : Hid ((!wrB v d t || okB v d t) = (decide (1 ≤ v) && decide (v ≤ 7) && !(d && t))) := by simp [Hid, wrB, okB, h0]
    generalize (!wrB v d t || okB v d t) = R at *
    clear h0
    by_cases h1 : (1 : Int) ≤ v
    · by_cases h7 : v ≤ 7
      · cases d <;> cases t <;> (go_enter Tryd.func72, Tryd.ntmps72; go_wp2_with (fail); go_ret; exact ⟨ret_b (by rw [HO.out]; simp [h1, h7]), ba _ _⟩)
      · cases d <;> cases t <;> (go_enter Tryd.func72, Tryd.ntmps72; go_wp2_with (fail); go_ret; exact ⟨ret_b (by rw [HO.out, show decide (v ≤ 7) = false by simpa using h7]; simp), ba _ _⟩)
    · cases d <;> cases t <;> (go_enter Tryd.func72, Tryd.ntmps72; go_wp2_with (fail); go_ret; exact ⟨ret_b (by rw [HO.out, show decide ((1 : Int) ≤ v) = false by simpa using h1]; rfl), ba _ _⟩)

set_option maxRecDepth 100000 in
set_option maxHeartbeats 1600000 in
theorem rticks_bad (v : Int) (d t : Bool) (w : World) (h : okB v d t = false) : Calls Tryd.prog 49 #[sg v d t] w fun e w' => e = .returned (.int .i64 0) ∧ Below w.heap.size w w' := by
  cases hw : wrB v d t with
  | false =>
    have h0 : v = 0 := by simp [wrB] at hw; exact hw.1.1
    have HO : Hid ((!wrB v d t || okB v d t) = true) := by simp [Hid, hw]
    subst h0
    clear hw h
    go_enter Tryd.func49, Tryd.ntmps49
    go_wp2_with (go_at_call 72; refine (rRight_any 0 d t _).mono ?_; rintro e w1 ⟨rfl, hb1⟩; rw [HO.out]; obtain ⟨q0, q1, q2⟩ := sgC hb1)
    go_ret
    exact ⟨rfl, bx hb1⟩
  | true =>
    have HO : Hid ((!wrB v d t || okB v d t) = false) := by simp [Hid, hw, h]
    clear hw h
    go_enter Tryd.func49, Tryd.ntmps49
    go_wp2_with (go_at_call 72; refine (rRight_any v d t _).mono ?_; rintro e w1 ⟨rfl, hb1⟩; rw [HO.out])
    go_ret
    exact ⟨rfl, bx hb1⟩

set_option maxRecDepth 100000 in
set_option maxHeartbeats 1600000 in
theorem rticks_1_00 (w : World) : Calls Tryd.prog 49 #[sg 1 false false] w fun e w' => e = .returned (.int .i64 384) ∧ Below w.heap.size w w' := by
  go_enter Tryd.func49, Tryd.ntmps49
  go_wp2_with (go_at_call 72; refine (rRight_any 1 false false _).mono ?_; rintro e w1 ⟨rfl, hb1⟩; rw [show (!wrB 1 false false || okB 1 false false) = true from rfl]; obtain ⟨q0, q1, q2⟩ := sgC hb1)
  refine wp_loop_rounds 1 ?_
  rw [rounds_succ]
  go_wp2_with (fail)
  go_ret
  exact ⟨rfl, bx hb1⟩

set_option maxRecDepth 100000 in
set_option maxHeartbeats 1600000 in
theorem rticks_1_10 (w : World) : Calls Tryd.prog 49 #[sg 1 true false] w fun e w' => e = .returned (.int .i64 576) ∧ Below w.heap.size w w' := by
  go_enter Tryd.func49, Tryd.ntmps49
  go_wp2_with (go_at_call 72; refine (rRight_any 1 true false _).mono ?_; rintro e w1 ⟨rfl, hb1⟩; rw [show (!wrB 1 true false || okB 1 true false) = true from rfl]; obtain ⟨q0, q1, q2⟩ := sgC hb1)
  refine wp_loop_rounds 1 ?_
  rw [rounds_succ]
  go_wp2_with (fail)
  go_ret
  exact ⟨rfl, bx hb1⟩

set_option maxRecDepth 100000 in
set_option maxHeartbeats 1600000 in
theorem rticks_1_01 (w : World) : Calls Tryd.prog 49 #[sg 1 false true] w fun e w' => e = .returned (.int .i64 256) ∧ Below w.heap.size w w' := by
  go_enter Tryd.func49, Tryd.ntmps49
  go_wp2_with (go_at_call 72; refine (rRight_any 1 false true _).mono ?_; rintro e w1 ⟨rfl, hb1⟩; rw [show (!wrB 1 false true || okB 1 false true) = true from rfl]; obtain ⟨q0, q1, q2⟩ := sgC hb1)
  refine wp_loop_rounds 1 ?_
  rw [rounds_succ]
  go_wp2_with (fail)
  go_ret
  exact ⟨rfl, bx hb1⟩

set_option maxRecDepth 100000 in
set_option maxHeartbeats 1600000 in
theorem rticks_2_00 (w : World) : Calls Tryd.prog 49 #[sg 2 false false] w fun e w' => e = .returned (.int .i64 192) ∧ Below w.heap.size w w' := by
  go_enter Tryd.func49, Tryd.ntmps49
  go_wp2_with (go_at_call 72; refine (rRight_any 2 false false _).mono ?_; rintro e w1 ⟨rfl, hb1⟩; rw [show (!wrB 2 false false || okB 2 false false) = true from rfl]; obtain ⟨q0, q1, q2⟩ := sgC hb1)
  refine wp_loop_rounds 2 ?_
  rw [rounds_succ]
  go_wp2_with (fail)
  rw [rounds_succ]
  go_wp2_with (fail)
  go_ret
  exact ⟨rfl, bx hb1⟩

set_option maxRecDepth 100000 in
set_option maxHeartbeats 1600000 in
theorem rticks_2_10 (w : World) : Calls Tryd.prog 49 #[sg 2 true false] w fun e w' => e = .returned (.int .i64 288) ∧ Below w.heap.size w w' := by
  go_enter Tryd.func49, Tryd.ntmps49
  go_wp2_with (go_at_call 72; refine (rRight_any 2 true false _).mono ?_; rintro e w1 ⟨rfl, hb1⟩; rw [show (!wrB 2 true false || okB 2 true false) = true from rfl]; obtain ⟨q0, q1, q2⟩ := sgC hb1)
  refine wp_loop_rounds 2 ?_
  rw [rounds_succ]
  go_wp2_with (fail)
  rw [rounds_succ]
  go_wp2_with (fail)
  go_ret
  exact ⟨rfl, bx hb1⟩

set_option maxRecDepth 100000 in
set_option maxHeartbeats 1600000 in
theorem rticks_2_01 (w : World) : Calls Tryd.prog 49 #[sg 2 false true] w fun e w' => e = .returned (.int .i64 128) ∧ Below w.heap.size w w' := by
  go_enter Tryd.func49, Tryd.ntmps49
  go_wp2_with (go_at_call 72; refine (rRight_any 2 false true _).mono ?_; rintro e w1 ⟨rfl, hb1⟩; rw [show (!wrB 2 false true || okB 2 false true) = true from rfl]; obtain ⟨q0, q1, q2⟩ := sgC hb1)
  refine wp_loop_rounds 2 ?_
  rw [rounds_succ]
  go_wp2_with (fail)
  rw [rounds_succ]
  go_wp2_with (fail)
  go_ret
  exact ⟨rfl, bx hb1⟩

set_option maxRecDepth 100000 in
set_option maxHeartbeats 1600000 in
theorem rticks_3_00 (w : World) : Calls Tryd.prog 49 #[sg 3 false false] w fun e w' => e = .returned (.int .i64 96) ∧ Below w.heap.size w w' := by
  go_enter Tryd.func49, Tryd.ntmps49
  go_wp2_with (go_at_call 72; refine (rRight_any 3 false false _).mono ?_; rintro e w1 ⟨rfl, hb1⟩; rw [show (!wrB 3 false false || okB 3 false false) = true from rfl]; obtain ⟨q0, q1, q2⟩ := sgC hb1)
  refine wp_loop_rounds 3 ?_
  rw [rounds_succ]
  go_wp2_with (fail)
  rw [rounds_succ]
  go_wp2_with (fail)
  rw [rounds_succ]
  go_wp2_with (fail)
  go_ret
  exact ⟨rfl, bx hb1⟩

set_option maxRecDepth 100000 in
set_option maxHeartbeats 1600000 in
theorem rticks_3_10 (w : World) : Calls Tryd.prog 49 #[sg 3 true false] w fun e w' => e = .returned (.int .i64 144) ∧ Below w.heap.size w w' := by
  go_enter Tryd.func49, Tryd.ntmps49
  go_wp2_with (go_at_call 72; refine (rRight_any 3 true false _).mono ?_; rintro e w1 ⟨rfl, hb1⟩; rw [show (!wrB 3 true false || okB 3 true false) = true from rfl]; obtain ⟨q0, q1, q2⟩ := sgC hb1)
  refine wp_loop_rounds 3 ?_
  rw [rounds_succ]
  go_wp2_with (fail)
  rw [rounds_succ]
  go_wp2_with (fail)
  rw [rounds_succ]
  go_wp2_with (fail)
  go_ret
  exact ⟨rfl, bx hb1⟩

set_option maxRecDepth 100000 in
set_option maxHeartbeats 1600000 in
theorem rticks_3_01 (w : World) : Calls Tryd.prog 49 #[sg 3 false true] w fun e w' => e = .returned (.int .i64 64) ∧ Below w.heap.size w w' := by
  go_enter Tryd.func49, Tryd.ntmps49
  go_wp2_with (go_at_call 72; refine (rRight_any 3 false true _).mono ?_; rintro e w1 ⟨rfl, hb1⟩; rw [show (!wrB 3 false true || okB 3 false true) = true from rfl]; obtain ⟨q0, q1, q2⟩ := sgC hb1)
  refine wp_loop_rounds 3 ?_
  rw [rounds_succ]
  go_wp2_with (fail)
  rw [rounds_succ]
  go_wp2_with (fail)
  rw [rounds_succ]
  go_wp2_with (fail)
  go_ret
  exact ⟨rfl, bx hb1⟩

set_option maxRecDepth 100000 in
set_option maxHeartbeats 1600000 in
theorem rticks_4_00 (w : World) : Calls Tryd.prog 49 #[sg 4 false false] w fun e w' => e = .returned (.int .i64 48) ∧ Below w.heap.size w w' := by
  go_enter Tryd.func49, Tryd.ntmps49
  go_wp2_with (go_at_call 72; refine (rRight_any 4 false false _).mono ?_; rintro e w1 ⟨rfl, hb1⟩; rw [show (!wrB 4 false false || okB 4 false false) = true from rfl]; obtain ⟨q0, q1, q2⟩ := sgC hb1)
  refine wp_loop_rounds 4 ?_
  rw [rounds_succ]
  go_wp2_with (fail)
  rw [rounds_succ]
  go_wp2_with (fail)
  rw [rounds_succ]
  go_wp2_with (fail)
  rw [rounds_succ]
  go_wp2_with (fail)
  go_ret
  exact ⟨rfl, bx hb1⟩

set_option maxRecDepth 100000 in
set_option maxHeartbeats 1600000 in
theorem rticks_4_10 (w : World) : Calls Tryd.prog 49 #[sg 4 true false] w fun e w' => e = .returned (.int .i64 72) ∧ Below w.heap.size w w' := by
  go_enter Tryd.func49, Tryd.ntmps49
  go_wp2_with (go_at_call 72; refine (rRight_any 4 true false _).mono ?_; rintro e w1 ⟨rfl, hb1⟩; rw [show (!wrB 4 true false || okB 4 true false) = true from rfl]; obtain ⟨q0, q1, q2⟩ := sgC hb1)
  refine wp_loop_rounds 4 ?_
  rw [rounds_succ]
  go_wp2_with (fail)
  rw [rounds_succ]
  go_wp2_with (fail)
  rw [rounds_succ]
  go_wp2_with (fail)
  rw [rounds_succ]
  go_wp2_with (fail)
  go_ret
  exact ⟨rfl, bx hb1⟩

set_option maxRecDepth 100000 in
set_option maxHeartbeats 1600000 in
theorem rticks_4_01 (w : World) : Calls Tryd.prog 49 #[sg 4 false true] w fun e w' => e = .returned (.int .i64 32) ∧ Below w.heap.size w w' := by
  go_enter Tryd.func49, Tryd.ntmps49
  go_wp2_with (go_at_call 72; refine (rRight_any 4 false true _).mono ?_; rintro e w1 ⟨rfl, hb1⟩; rw [show (!wrB 4 false true || okB 4 false true) = true from rfl]; obtain ⟨q0, q1, q2⟩ := sgC hb1)
  refine wp_loop_rounds 4 ?_
  rw [rounds_succ]
  go_wp2_with (fail)
  rw [rounds_succ]
  go_wp2_with (fail)
  rw [rounds_succ]
  go_wp2_with (fail)
  rw [rounds_succ]
  go_wp2_with (fail)
  go_ret
  exact ⟨rfl, bx hb1⟩

set_option maxRecDepth 100000 in
set_option maxHeartbeats 1600000 in
theorem rticks_5_00 (w : World) : Calls Tryd.prog 49 #[sg 5 false false] w fun e w' => e = .returned (.int .i64 24) ∧ Below w.heap.size w w' := by
  go_enter Tryd.func49, Tryd.ntmps49
  go_wp2_with (go_at_call 72; refine (rRight_any 5 false false _).mono ?_; rintro e w1 ⟨rfl, hb1⟩; rw [show (!wrB 5 false false || okB 5 false false) = true from rfl]; obtain ⟨q0, q1, q2⟩ := sgC hb1)
  refine wp_loop_rounds 5 ?_
  rw [rounds_succ]
  go_wp2_with (fail)
  rw [rounds_succ]
  go_wp2_with (fail)
  rw [rounds_succ]
  go_wp2_with (fail)
  rw [rounds_succ]
  go_wp2_with (fail)
  rw [rounds_succ]
  go_wp2_with (fail)
  go_ret
  exact ⟨rfl, bx hb1⟩

set_option maxRecDepth 100000 in
set_option maxHeartbeats 1600000 in
theorem rticks_5_10 (w : World) : Calls Tryd.prog 49 #[sg 5 true false] w fun e w' => e = .returned (.int .i64 36) ∧ Below w.heap.size w w' := by
  go_enter Tryd.func49, Tryd.ntmps49
  go_wp2_with (go_at_call 72; refine (rRight_any 5 true false _).mono ?_; rintro e w1 ⟨rfl, hb1⟩; rw [show (!wrB 5 true false || okB 5 true false) = true from rfl]; obtain ⟨q0, q1, q2⟩ := sgC hb1)
  refine wp_loop_rounds 5 ?_
  rw [rounds_succ]
  go_wp2_with (fail)
  rw [rounds_succ]
  go_wp2_with (fail)
  rw [rounds_succ]
  go_wp2_with (fail)
  rw [rounds_succ]
  go_wp2_with (fail)
  rw [rounds_succ]
  go_wp2_with (fail)
  go_ret
  exact ⟨rfl, bx hb1⟩

set_option maxRecDepth 100000 in
set_option maxHeartbeats 1600000 in
theorem rticks_5_01 (w : World) : Calls Tryd.prog 49 #[sg 5 false true] w fun e w' => e = .returned (.int .i64 16) ∧ Below w.heap.size w w' := by
  go_enter Tryd.func49, Tryd.ntmps49
  go_wp2_with (go_at_call 72; refine (rRight_any 5 false true _).mono ?_; rintro e w1 ⟨rfl, hb1⟩; rw [show (!wrB 5 false true || okB 5 false true) = true from rfl]; obtain ⟨q0, q1, q2⟩ := sgC hb1)
  refine wp_loop_rounds 5 ?_
  rw [rounds_succ]
  go_wp2_with (fail)
  rw [rounds_succ]
  go_wp2_with (fail)
  rw [rounds_succ]
  go_wp2_with (fail)
  rw [rounds_succ]
  go_wp2_with (fail)
  rw [rounds_succ]
  go_wp2_with (fail)
  go_ret
  exact ⟨rfl, bx hb1⟩

set_option maxRecDepth 100000 in
set_option maxHeartbeats 1600000 in
theorem rticks_6_00 (w : World) : Calls Tryd.prog 49 #[sg 6 false false] w fun e w' => e = .returned (.int .i64 12) ∧ Below w.heap.size w w' := by
  go_enter Tryd.func49, Tryd.ntmps49
  go_wp2_with (go_at_call 72; refine (rRight_any 6 false false _).mono ?_; rintro e w1 ⟨rfl, hb1⟩; rw [show (!wrB 6 false false || okB 6 false false) = true from rfl]; obtain ⟨q0, q1, q2⟩ := sgC hb1)
  refine wp_loop_rounds 6 ?_
  rw [rounds_succ]
  go_wp2_with (fail)
  rw [rounds_succ]
  go_wp2_with (fail)
  rw [rounds_succ]
  go_wp2_with (fail)
  rw [rounds_succ]
  go_wp2_with (fail)
  rw [rounds_succ]
  go_wp2_with (fail)
  rw [rounds_succ]
  go_wp2_with (fail)
  go_ret
  exact ⟨rfl, bx hb1⟩

set_option maxRecDepth 100000 in
set_option maxHeartbeats 1600000 in
theorem rticks_6_10 (w : World) : Calls Tryd.prog 49 #[sg 6 true false] w fun e w' => e = .returned (.int .i64 18) ∧ Below w.heap.size w w' := by
  go_enter Tryd.func49, Tryd.ntmps49
  go_wp2_with (go_at_call 72; refine (rRight_any 6 true false _).mono ?_; rintro e w1 ⟨rfl, hb1⟩; rw [show (!wrB 6 true false || okB 6 true false) = true from rfl]; obtain ⟨q0, q1, q2⟩ := sgC hb1)
  refine wp_loop_rounds 6 ?_
  rw [rounds_succ]
  go_wp2_with (fail)
  rw [rounds_succ]
  go_wp2_with (fail)
  rw [rounds_succ]
  go_wp2_with (fail)
  rw [rounds_succ]
  go_wp2_with (fail)
  rw [rounds_succ]
  go_wp2_with (fail)
  rw [rounds_succ]
  go_wp2_with (fail)
  go_ret
  exact ⟨rfl, bx hb1⟩

set_option maxRecDepth 100000 in
set_option maxHeartbeats 1600000 in
theorem rticks_6_01 (w : World) : Calls Tryd.prog 49 #[sg 6 false true] w fun e w' => e = .returned (.int .i64 8) ∧ Below w.heap.size w w' := by
  go_enter Tryd.func49, Tryd.ntmps49
  go_wp2_with (go_at_call 72; refine (rRight_any 6 false true _).mono ?_; rintro e w1 ⟨rfl, hb1⟩; rw [show (!wrB 6 false true || okB 6 false true) = true from rfl]; obtain ⟨q0, q1, q2⟩ := sgC hb1)
  refine wp_loop_rounds 6 ?_
  rw [rounds_succ]
  go_wp2_with (fail)
  rw [rounds_succ]
  go_wp2_with (fail)
  rw [rounds_succ]
  go_wp2_with (fail)
  rw [rounds_succ]
  go_wp2_with (fail)
  rw [rounds_succ]
  go_wp2_with (fail)
  rw [rounds_succ]
  go_wp2_with (fail)
  go_ret
  exact ⟨rfl, bx hb1⟩

set_option maxRecDepth 100000 in
set_option maxHeartbeats 1600000 in
theorem rticks_7_00 (w : World) : Calls Tryd.prog 49 #[sg 7 false false] w fun e w' => e = .returned (.int .i64 6) ∧ Below w.heap.size w w' := by
  go_enter Tryd.func49, Tryd.ntmps49
  go_wp2_with (go_at_call 72; refine (rRight_any 7 false false _).mono ?_; rintro e w1 ⟨rfl, hb1⟩; rw [show (!wrB 7 false false || okB 7 false false) = true from rfl]; obtain ⟨q0, q1, q2⟩ := sgC hb1)
  refine wp_loop_rounds 7 ?_
  rw [rounds_succ]
  go_wp2_with (fail)
  rw [rounds_succ]
  go_wp2_with (fail)
  rw [rounds_succ]
  go_wp2_with (fail)
  rw [rounds_succ]
  go_wp2_with (fail)
  rw [rounds_succ]
  go_wp2_with (fail)
  rw [rounds_succ]
  go_wp2_with (fail)
  rw [rounds_succ]
  go_wp2_with (fail)
  go_ret
  exact ⟨rfl, bx hb1⟩

set_option maxRecDepth 100000 in
set_option maxHeartbeats 1600000 in
theorem rticks_7_10 (w : World) : Calls Tryd.prog 49 #[sg 7 true false] w fun e w' => e = .returned (.int .i64 9) ∧ Below w.heap.size w w' := by
  go_enter Tryd.func49, Tryd.ntmps49
  go_wp2_with (go_at_call 72; refine (rRight_any 7 true false _).mono ?_; rintro e w1 ⟨rfl, hb1⟩; rw [show (!wrB 7 true false || okB 7 true false) = true from rfl]; obtain ⟨q0, q1, q2⟩ := sgC hb1)
  refine wp_loop_rounds 7 ?_
  rw [rounds_succ]
  go_wp2_with (fail)
  rw [rounds_succ]
  go_wp2_with (fail)
  rw [rounds_succ]
  go_wp2_with (fail)
  rw [rounds_succ]
  go_wp2_with (fail)
  rw [rounds_succ]
  go_wp2_with (fail)
  rw [rounds_succ]
  go_wp2_with (fail)
  rw [rounds_succ]
  go_wp2_with (fail)
  go_ret
  exact ⟨rfl, bx hb1⟩

set_option maxRecDepth 100000 in
set_option maxHeartbeats 1600000 in
theorem rticks_7_01 (w : World) : Calls Tryd.prog 49 #[sg 7 false true] w fun e w' => e = .returned (.int .i64 4) ∧ Below w.heap.size w w' := by
  go_enter Tryd.func49, Tryd.ntmps49
  go_wp2_with (go_at_call 72; refine (rRight_any 7 false true _).mono ?_; rintro e w1 ⟨rfl, hb1⟩; rw [show (!wrB 7 false true || okB 7 false true) = true from rfl]; obtain ⟨q0, q1, q2⟩ := sgC hb1)
  refine wp_loop_rounds 7 ?_
  rw [rounds_succ]
  go_wp2_with (fail)
  rw [rounds_succ]
  go_wp2_with (fail)
  rw [rounds_succ]
  go_wp2_with (fail)
  rw [rounds_succ]
  go_wp2_with (fail)
  rw [rounds_succ]
  go_wp2_with (fail)
  rw [rounds_succ]
  go_wp2_with (fail)
  rw [rounds_succ]
  go_wp2_with (fail)
  go_ret
  exact ⟨rfl, bx hb1⟩

theorem rticks_any (v : Int) (d t : Bool) (w : World) : Calls Tryd.prog 49 #[sg v d t] w fun e w' => e = .returned (.int .i64 (tkV v d t)) ∧ Below w.heap.size w w' := by
  cases h : okB v d t with
  | false => rw [tkV, if_neg (by rw [h]; simp)]; exact rticks_bad v d t w h
  | true =>
    have h2 : 1 ≤ v ∧ v ≤ 7 ∧ (d && t) = false := by simp [okB] at h; exact ⟨h.1.1, h.1.2, by rcases h.2 with rfl | rfl <;> simp⟩
    obtain ⟨h3, h4, h5⟩ := h2
    have : v = 1 ∨ v = 2 ∨ v = 3 ∨ v = 4 ∨ v = 5 ∨ v = 6 ∨ v = 7 := by omega
    clear h
    cases d <;> cases t
    all_goals first | cases h5 | skip
    · rcases this with rfl | rfl | rfl | rfl | rfl | rfl | rfl
      · exact rticks_1_00 w
      · exact rticks_2_00 w
      · exact rticks_3_00 w
      · exact rticks_4_00 w
      · exact rticks_5_00 w
      · exact rticks_6_00 w
      · exact rticks_7_00 w
    · rcases this with rfl | rfl | rfl | rfl | rfl | rfl | rfl
      · exact rticks_1_01 w
      · exact rticks_2_01 w
      · exact rticks_3_01 w
      · exact rticks_4_01 w
      · exact rticks_5_01 w
      · exact rticks_6_01 w
      · exact rticks_7_01 w
    · rcases this with rfl | rfl | rfl | rfl | rfl | rfl | rfl
      · exact rticks_1_10 w
      · exact rticks_2_10 w
      · exact rticks_3_10 w
      · exact rticks_4_10 w
      · exact rticks_5_10 w
      · exact rticks_6_10 w
      · exact rticks_7_10 w

end Go.Proofs.YtdhjigaocamglaaDoor
