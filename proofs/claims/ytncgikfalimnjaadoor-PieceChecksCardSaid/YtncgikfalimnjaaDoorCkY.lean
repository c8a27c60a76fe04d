/- Piece: Check of the small piece that law 02 looks at, third part: its stop. -/
import Derived.Test.YtncgikfalimnjaaDoorCkX
import Derived.BigQuiet
namespace Go.Proofs.YtncgikfalimnjaaDoor
open Go Go.RowKit

abbrev pO (bc bs eb : Nat) : Obj := .cells #[.slice (some ⟨bc, 0, none⟩) 1 1, .slice (some ⟨bs, 0, none⟩) 2 2, .slice (some ⟨eb, 0, none⟩) 2 2] 37
abbrev stO : Obj := .cells #[.int .i64 1, .int .i64 2, .int .i64 0, .int .i64 0, .int .i64 1] 73
theorem argsS {w w1 : World} {bc bs eb : Nat} (h : Below ((w.alloc (pO bc bs eb)).alloc stO).heap.size ((w.alloc (pO bc bs eb)).alloc stO) w1) :
    (w1.cell? ⟨w.heap.size, 0, none⟩ = some (.slice (some ⟨bc, 0, none⟩) 1 1) ∧ w1.cell? ⟨w.heap.size, 1, none⟩ = some (.slice (some ⟨bs, 0, none⟩) 2 2) ∧ w1.cell? ⟨w.heap.size, 2, none⟩ = some (.slice (some ⟨eb, 0, none⟩) 2 2)) ∧
    (w1.cell? ⟨w.heap.size + 1, 0, none⟩ = some (.int .i64 1) ∧ w1.cell? ⟨w.heap.size + 1, 1, none⟩ = some (.int .i64 2) ∧ w1.cell? ⟨w.heap.size + 1, 2, none⟩ = some (.int .i64 0) ∧ w1.cell? ⟨w.heap.size + 1, 3, none⟩ = some (.int .i64 0) ∧ w1.cell? ⟨w.heap.size + 1, 4, none⟩ = some (.int .i64 1)) ∧
    Below ((w.alloc (pO bc bs eb)).alloc stO).heap.size ((w.alloc (pO bc bs eb)).alloc stO) w1 :=
  ⟨boxP (bt (ba _ _) h), ⟨by simpa using (keepb h 0).1, by simpa using (keepb h 1).1, by simpa using (keepb h 2).1, by simpa using (keepb h 3).1, by simpa using (keepb h 4).1⟩, h⟩

set_option maxRecDepth 100000 in
set_option maxHeartbeats 1600000 in
theorem checkStop_W (bc bs eb sk : Nat) (w : World) (hP : PW w bc bs eb sk) : Calls Tryd.prog 98 #[pW bc bs eb, .int .i64 0, .int .i64 0, stW] w fun e w' => e = .returned (.int .i64 0) ∧ Below w.heap.size w w' := by
  have HP : Hid (∀ w1, Below ((w.alloc (pO bc bs eb)).alloc stO).heap.size ((w.alloc (pO bc bs eb)).alloc stO) w1 → PW w1 bc bs eb sk) := fun w1 h => (hP.below (bt (ba w _) (ba _ _))).below h
  have c1 := ((hP.below (bt (ba w (pO bc bs eb)) (ba _ stO)))).fr1
  clear hP
  go_enter Tryd.func98, Tryd.ntmps98
  go_wp2_with (fail)
  go_quiet (fail)
  have hq := bd (Below.refl ((w.alloc (pO bc bs eb)).alloc stO).heap.size ((w.alloc (pO bc bs eb)).alloc stO)) nq
  generalize ((w.alloc (pO bc bs eb)).alloc stO).drewN nq = wc at *
  clear c1
  obtain ⟨⟨p0, p1, p2⟩, ⟨q0, q1, q2, q3, q4⟩, _⟩ := argsS hq
  go_wp2_with (fail)
  go_region_held3 (fun w' => (w'.cell? ⟨w.heap.size, 0, none⟩ = some (.slice (some ⟨bc, 0, none⟩) 1 1) ∧ w'.cell? ⟨w.heap.size, 1, none⟩ = some (.slice (some ⟨bs, 0, none⟩) 2 2) ∧ w'.cell? ⟨w.heap.size, 2, none⟩ = some (.slice (some ⟨eb, 0, none⟩) 2 2)) ∧ (w'.cell? ⟨w.heap.size + 1, 0, none⟩ = some (.int .i64 1) ∧ w'.cell? ⟨w.heap.size + 1, 1, none⟩ = some (.int .i64 2) ∧ w'.cell? ⟨w.heap.size + 1, 2, none⟩ = some (.int .i64 0) ∧ w'.cell? ⟨w.heap.size + 1, 3, none⟩ = some (.int .i64 0) ∧ w'.cell? ⟨w.heap.size + 1, 4, none⟩ = some (.int .i64 1)) ∧ Below ((w.alloc (pO bc bs eb)).alloc stO).heap.size ((w.alloc (pO bc bs eb)).alloc stO) w')
    (first | exact argsS (bt hq.drew hb3) | exact argsS hq.drew)
    (first | (go_at_call 23; refine (longest_W bc bs eb sk _ (HP.out _ hq.drew)).mono ?_; rintro e w3 ⟨rfl, hb3⟩))
  have T3 := bt hq.drew hb3
  go_wp2_with (fail)
  go_ret
  exact ⟨rfl, bx (bx T3)⟩

end Go.Proofs.YtncgikfalimnjaaDoor
