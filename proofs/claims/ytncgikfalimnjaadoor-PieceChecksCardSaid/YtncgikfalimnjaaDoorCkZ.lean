/- Piece: Check of the small piece that law 02 looks at, last part: its events. -/
import Derived.Test.YtncgikfalimnjaaDoorCkY
namespace Go.Proofs.YtncgikfalimnjaaDoor
open Go Go.RowKit

set_option maxRecDepth 100000 in
set_option maxHeartbeats 1600000 in
theorem checkEvent_0 (bc bs eb sk : Nat) (w : World) (hP : PW w bc bs eb sk) : Calls Tryd.prog 57 #[pW bc bs eb, .int .i64 0] w fun e w' => e = .returned (.int .i64 0) ∧ Below w.heap.size w w' := by
  have HP : Hid (∀ w1, Below (w.alloc (pO bc bs eb)).heap.size (w.alloc (pO bc bs eb)) w1 → PW w1 bc bs eb sk) := fun w1 h => (hP.below (ba w _)).below h
  obtain ⟨⟨v0, v1, v2, v3, v4, v5⟩, _⟩ := (hP.below (ba w (pO bc bs eb))).cells
  clear hP
  go_enter Tryd.func57, Tryd.ntmps57
  go_wp2_with (first
    | (go_at_call 55; refine (validSign_any 3 false false _).mono ?_; rintro e w1 ⟨rfl, hb1⟩; rw [show (!wrB 3 false false || okB 3 false false) = true from rfl]; obtain ⟨x0, x1, x2, x3, x4, x5⟩ := evCells (x := e0W sk) hb1; simp only [World.size_alloc] at x0 x1 x2 x3 x4 x5)
    | (go_at_call 54; refine (written_any 3 false false _).mono ?_; rintro e w2 ⟨rfl, hb2⟩; rw [show wrB 3 false false = true from rfl]; obtain ⟨y0, y1, y2, y3, y4, y5⟩ := evCells (x := e0W sk) (bt hb1 hb2); simp only [World.size_alloc] at y0 y1 y2 y3 y4 y5; clear x0 x1 x2 x3 x4 x5; have T2 := bx (bt hb1 hb2); obtain ⟨s0, s1, s2, s3, s4⟩ := (HP.out _ T2).st; obtain ⟨p0, p1, p2⟩ := boxP (bt T2 (ba w2 stO))))
  refine wp_loop_rounds 2 ?_
  rw [rounds_succ]
  go_wp2_with (go_at_call 98; refine (checkStop_W bc bs eb sk _ (HP.out _ (bt T2 (ba w2 _)))).mono ?_; rintro e w3 ⟨rfl, hb3⟩; have z0 := (keepb hb3 0).1; simp at z0)
  rw [rounds_succ]
  go_wp2_with (fail)
  go_ret
  exact ⟨rfl, bx (bt T2 (bt (ba w2 _) hb3))⟩

set_option maxRecDepth 100000 in
set_option maxHeartbeats 1600000 in
theorem checkEvent_1 (bc bs eb sk : Nat) (w : World) (hP : PW w bc bs eb sk) : Calls Tryd.prog 57 #[pW bc bs eb, .int .i64 1] w fun e w' => e = .returned (.int .i64 0) ∧ Below w.heap.size w w' := by
  obtain ⟨_, v0, v1, v2, v3, v4, v5⟩ := (hP.below (ba w (pO bc bs eb))).cells
  clear hP
  go_enter Tryd.func57, Tryd.ntmps57
  go_wp2_with (go_at_call 55; refine (validSign_any 4 false false _).mono ?_; rintro e w1 ⟨rfl, hb1⟩; rw [show (!wrB 4 false false || okB 4 false false) = true from rfl]; obtain ⟨x0, x1, x2, x3, x4, x5⟩ := evCells (x := e1W) hb1; simp only [World.size_alloc] at x0 x1 x2 x3 x4 x5)
  refine wp_loop_rounds 1 ?_
  rw [rounds_succ]
  go_wp2_with (fail)
  go_ret
  exact ⟨rfl, bx (bx hb1)⟩

set_option maxRecDepth 100000 in
set_option maxHeartbeats 1600000 in
theorem check_W (bc bs eb sk : Nat) (w : World) (hP : PW w bc bs eb sk) : Calls Tryd.prog 20 #[pW bc bs eb] w fun e w' => e = .returned (.int .i64 0) ∧ Below w.heap.size w w' := by
  have HP : Hid (∀ w1, Below (w.alloc (pO bc bs eb)).heap.size (w.alloc (pO bc bs eb)) w1 → PW w1 bc bs eb sk) := fun w1 h => (hP.below (ba w _)).below h
  clear hP
  have hchk : chk [⟨60, 2, false⟩] [1, 2] = 0 := by decide
  go_enter Tryd.func20, Tryd.ntmps20
  go_wp2_with (go_at_call 56; refine (check_any (some ⟨bc, 0, none⟩) (some ⟨bs, 0, none⟩) 1 1 2 2 [⟨60, 2, false⟩] [1, 2] _ (HP.out _ (Below.refl _ _)).crs (HP.out _ (Below.refl _ _)).stp rfl rfl (by decide) (by decide)).mono ?_; rintro e w1 ⟨rfl, hb1⟩; rw [hchk]; obtain ⟨p0, p1, p2⟩ := boxP hb1)
  refine wp_loop_rounds 3 ?_
  rw [rounds_succ]
  go_wp2_with (go_at_call 57; refine (checkEvent_0 bc bs eb sk _ (HP.out _ hb1)).mono ?_; rintro e w2 ⟨rfl, hb2⟩; have T2 := bt hb1 hb2; obtain ⟨r0, r1, r2⟩ := boxP T2)
  rw [rounds_succ]
  go_wp2_with (go_at_call 57; refine (checkEvent_1 bc bs eb sk _ (HP.out _ T2)).mono ?_; rintro e w3 ⟨rfl, hb3⟩)
  rw [rounds_succ]
  go_wp2_with (fail)
  go_ret
  exact ⟨rfl, bx (bt T2 hb3)⟩

end Go.Proofs.YtncgikfalimnjaaDoor
