/- Piece: Check of the small piece that law 02 looks at, second part. -/
import Derived.Test.YtncgikfalimnjaaDoorCkW
namespace Go.Proofs.YtncgikfalimnjaaDoor
open Go Go.RowKit

abbrev pW (bc bs eb : Nat) : Value := .agg #[.slice (some ⟨bc, 0, none⟩) 1 1, .slice (some ⟨bs, 0, none⟩) 2 2, .slice (some ⟨eb, 0, none⟩) 2 2]
abbrev stW : Value := .agg #[.int .i64 1, .int .i64 2, .int .i64 0, .int .i64 0, .int .i64 1]
/-- The small piece lies in memory. -/
structure PW (w : World) (bc bs eb sk : Nat) : Prop where
  crs : Sl w w.heap.size 3 (some ⟨bc, 0, none⟩) 1 1 (crC [⟨60, 2, false⟩])
  stp : Sl w w.heap.size 1 (some ⟨bs, 0, none⟩) 2 2 (intC [1, 2])
  fr1 : w.cell? ⟨bc, 1, none⟩ = some (.int .i64 2)
  ev0 : EvAt w eb 0 0 (e0W sk)
  ev1 : EvAt w eb 0 1 e1W
  st : w.cell? ⟨sk, 0, none⟩ = some (.int .i64 1) ∧ w.cell? ⟨sk, 1, none⟩ = some (.int .i64 2) ∧ w.cell? ⟨sk, 2, none⟩ = some (.int .i64 0) ∧ w.cell? ⟨sk, 3, none⟩ = some (.int .i64 0) ∧ w.cell? ⟨sk, 4, none⟩ = some (.int .i64 1)
  hbc : bc < w.heap.size
  heb : eb < w.heap.size
  hsk : sk < w.heap.size
theorem PW.below {w w' : World} {bc bs eb sk : Nat} (h : PW w bc bs eb sk) (hb : Below w.heap.size w w') : PW w' bc bs eb sk := by
  have h1 := hb.block bc h.hbc
  have h2 := hb.block eb h.heb
  have h3 := hb.block sk h.hsk
  obtain ⟨s0, s1, s2, s3, s4⟩ := h.st
  exact ⟨h.crs.below hb, h.stp.below hb, cell_same h1 h.fr1, h.ev0.same h2, h.ev1.same h2, ⟨cell_same h3 s0, cell_same h3 s1, cell_same h3 s2, cell_same h3 s3, cell_same h3 s4⟩,
    Nat.lt_of_lt_of_le h.hbc hb.size, Nat.lt_of_lt_of_le h.heb hb.size, Nat.lt_of_lt_of_le h.hsk hb.size⟩
/-- The events' cells, at literals. -/
theorem PW.cells {w : World} {bc bs eb sk : Nat} (h : PW w bc bs eb sk) :
    (w.cell? ⟨eb, 0, none⟩ = some (.bool false) ∧ w.cell? ⟨eb, 1, none⟩ = some (.int .i64 3) ∧ w.cell? ⟨eb, 2, none⟩ = some (.bool false) ∧ w.cell? ⟨eb, 3, none⟩ = some (.bool false) ∧ w.cell? ⟨eb, 4, none⟩ = some (.bool false) ∧ w.cell? ⟨eb, 5, none⟩ = some (.slice (some ⟨sk, 0, none⟩) 1 1)) ∧
    (w.cell? ⟨eb, 6, none⟩ = some (.bool false) ∧ w.cell? ⟨eb, 7, none⟩ = some (.int .i64 4) ∧ w.cell? ⟨eb, 8, none⟩ = some (.bool false) ∧ w.cell? ⟨eb, 9, none⟩ = some (.bool false) ∧ w.cell? ⟨eb, 10, none⟩ = some (.bool true) ∧ w.cell? ⟨eb, 11, none⟩ = some (.slice none 0 0)) := by
  have a := h.ev0
  have b := h.ev1
  unfold EvAt at a b
  simp only [Nat.zero_mul, Nat.zero_add, Nat.one_mul] at a b
  exact ⟨a, b⟩
theorem boxP {w w1 : World} {bc bs eb : Nat} {T : TypeId} (hb : Below (w.alloc (.cells #[.slice (some ⟨bc, 0, none⟩) 1 1, .slice (some ⟨bs, 0, none⟩) 2 2, .slice (some ⟨eb, 0, none⟩) 2 2] T)).heap.size (w.alloc (.cells #[.slice (some ⟨bc, 0, none⟩) 1 1, .slice (some ⟨bs, 0, none⟩) 2 2, .slice (some ⟨eb, 0, none⟩) 2 2] T)) w1) :
    w1.cell? ⟨w.heap.size, 0, none⟩ = some (.slice (some ⟨bc, 0, none⟩) 1 1) ∧ w1.cell? ⟨w.heap.size, 1, none⟩ = some (.slice (some ⟨bs, 0, none⟩) 2 2) ∧ w1.cell? ⟨w.heap.size, 2, none⟩ = some (.slice (some ⟨eb, 0, none⟩) 2 2) :=
  ⟨by simpa using (keepb hb 0).1, by simpa using (keepb hb 1).1, by simpa using (keepb hb 2).1⟩

set_option maxRecDepth 100000 in
set_option maxHeartbeats 1600000 in
theorem longest_W (bc bs eb sk : Nat) (w : World) (hP : PW w bc bs eb sk) : Calls Tryd.prog 23 #[pW bc bs eb, .int .i64 0, .int .i64 1] w fun e w' => e = .returned (.int .i64 1) ∧ Below w.heap.size w w' := by
  have HP := Lib.hid hP
  have hP1 : Hid (∀ o, PW (w.alloc o) bc bs eb sk) := fun o => hP.below (ba w o)
  clear hP
  obtain ⟨_, v0, v1, v2, v3, v4, v5⟩ := (hP1.out (.cells #[.slice (some ⟨bc, 0, none⟩) 1 1, .slice (some ⟨bs, 0, none⟩) 2 2, .slice (some ⟨eb, 0, none⟩) 2 2] 37)).cells
  go_enter Tryd.func23, Tryd.ntmps23
  go_wp2_with (fail)
  refine wp_loop_rounds 2 ?_
  rw [rounds_succ]
  go_wp2_with (first
    | (go_at_call 61; refine (isRest_e1 _).mono ?_; rintro e w1 ⟨rfl, hb1⟩; obtain ⟨x0, x1, x2, x3, x4, x5⟩ := evCells (x := e1W) hb1; simp only [World.size_alloc] at x0 x1 x2 x3 x4 x5)
    | (go_at_call 62; refine (hasStop_e1 1 _).mono ?_; rintro e w2 ⟨rfl, hb2⟩))
  rw [rounds_succ]
  go_wp2_with (fail)
  go_ret
  exact ⟨rfl, bx (bx (bt hb1 hb2))⟩

end Go.Proofs.YtncgikfalimnjaaDoor
