/- The law PieceTicks returns true for every sign, in every world that holds the table of signs. -/
import Derived.Test.YtdaeanjjmbibmaaDoorWorks2
import Derived.Test.YtdaeanjjmbibmaaDoorTkR
namespace Go.Proofs.YtdaeanjjmbibmaaDoor
open Go Go.RowKit

theorem argT {w w' : World} {v : Int} {d t : Bool} (h : Below (w.alloc (.cells #[.int .i64 v, .bool d, .bool t] 44)).heap.size (w.alloc (.cells #[.int .i64 v, .bool d, .bool t] 44)) w') : w'.cell? ⟨w.heap.size, 0, none⟩ = some (.int .i64 v) ∧ w'.cell? ⟨w.heap.size, 1, none⟩ = some (.bool d) ∧ w'.cell? ⟨w.heap.size, 2, none⟩ = some (.bool t) ∧ Below (w.alloc (.cells #[.int .i64 v, .bool d, .bool t] 44)).heap.size (w.alloc (.cells #[.int .i64 v, .bool d, .bool t] 44)) w' :=
  ⟨(sgC h).1, (sgC h).2.1, (sgC h).2.2, h⟩
set_option maxRecDepth 100000 in
set_option maxHeartbeats 1600000 in
theorem law_ticks (v : Int) (d t : Bool) (w : World) (hT : SgT w) : Calls Tryd.prog 7 #[sg v d t] w fun e w' => e = .returned (.bool true) ∧ Below w.heap.size w w' := by
  have HT : Hid (∀ w', Below (w.alloc (.cells #[.int .i64 v, .bool d, .bool t] 44)).heap.size (w.alloc (.cells #[.int .i64 v, .bool d, .bool t] 44)) w' → SgT w') := fun w' h => (hT.below (ba w _)).below h
  have H1 := Lib.hid (ticks_any v d t)
  have H2 := Lib.hid (rticks_any v d t)
  clear hT
  generalize tkV v d t = k at *
  have hq0 := Below.refl (w.alloc (.cells #[.int .i64 v, .bool d, .bool t] 44)).heap.size (w.alloc (.cells #[.int .i64 v, .bool d, .bool t] 44))
  go_enter Tryd.func7, Tryd.ntmps7
  go_wp2_with (fail)
  go_region_held3 (fun w' => w'.cell? ⟨w.heap.size, 0, none⟩ = some (.int .i64 v) ∧ w'.cell? ⟨w.heap.size, 1, none⟩ = some (.bool d) ∧ w'.cell? ⟨w.heap.size, 2, none⟩ = some (.bool t) ∧ Below (w.alloc (.cells #[.int .i64 v, .bool d, .bool t] 44)).heap.size (w.alloc (.cells #[.int .i64 v, .bool d, .bool t] 44)) w')
    (first | exact argT (bt (bt (bt hq0.drew hb1) hb2) hb3) | exact argT (bt (bt (bt hq0.drew hb2) hb1) hb3) | exact argT (bt (bt hq0.drew hb1) hb2) | exact argT (bt (bt hq0.drew hb2) hb1) | exact argT (bt hq0.drew hb1) | exact argT (bt hq0.drew hb2) | exact argT hq0.drew)
    (first
      | (go_at_call 29; refine (H1.out _).mono ?_; rintro e w1 ⟨rfl, hb1⟩)
      | (go_at_call 30; refine (H2.out _).mono ?_; rintro e w2 ⟨rfl, hb2⟩)
      | (go_at_call 31; refine (works2 _ (by first | exact HT.out _ (bt (bt hq0.drew hb1) hb2) | exact HT.out _ (bt (bt hq0.drew hb2) hb1))).mono ?_; rintro e w3 ⟨rfl, hb3⟩))
  all_goals (go_wp2_with (fail); go_ret; first | exact ⟨rfl, bx (bt (bt (bt hq0.drew hb1) hb2) hb3)⟩ | exact ⟨rfl, bx (bt (bt (bt hq0.drew hb2) hb1) hb3)⟩)

end Go.Proofs.YtdaeanjjmbibmaaDoor
