/- Piece: the ticks of a sign. -/
import Derived.Test.YtdhjigaocamglaaDoorQbCheckAll
namespace Go.Proofs.YtdhjigaocamglaaDoor
open Go.RowKit

/-- A sign with a value. -/
def wrB (v : Int) (d t : Bool) : Bool := !(decide (v = 0)) || d || t
def okB (v : Int) (d t : Bool) : Bool := decide (1 ≤ v) && decide (v ≤ 7) && !(d && t)
def tbase (v : Int) : Int := if v = 1 then 384 else if v = 2 then 192 else if v = 3 then 96 else if v = 4 then 48 else if v = 5 then 24 else if v = 6 then 12 else 6
def tkV (v : Int) (d t : Bool) : Int := if okB v d t = true then (if d then tbase v / 2 * 3 else if t then tbase v / 3 * 2 else tbase v) else 0
abbrev sg (v : Int) (d t : Bool) : Value := .agg #[.int .i64 v, .bool d, .bool t]
theorem ret_b {a b : Bool} (h : a = b) : Ending.returned (.bool a) = .returned (.bool b) := by rw [h]

theorem sgC {w w1 : World} {v : Int} {d t : Bool} {T : TypeId} (hb1 : Below (w.alloc (.cells #[.int .i64 v, .bool d, .bool t] T)).heap.size (w.alloc (.cells #[.int .i64 v, .bool d, .bool t] T)) w1) :
    w1.cell? ⟨w.heap.size, 0, none⟩ = some (.int .i64 v) ∧ w1.cell? ⟨w.heap.size, 1, none⟩ = some (.bool d) ∧ w1.cell? ⟨w.heap.size, 2, none⟩ = some (.bool t) :=
  ⟨by simpa using (keepb hb1 0).1, by simpa using (keepb hb1 1).1, by simpa using (keepb hb1 2).1⟩
set_option maxHeartbeats 1600000 in
theorem written_any (v : Int) (d t : Bool) (w : World) : Calls Tryd.prog 69 #[sg v d t] w fun e w' => e = .returned (.bool (wrB v d t)) ∧ Below w.heap.size w w' := by
  have H : Hid (∀ b, b = (decide (v = 0)) → wrB v d t = (!b || d || t)) := fun b h => by rw [h]; rfl
  by_cases h : v = 0
  · subst h
    cases d <;> cases t <;> (go_enter Tryd.func69, Tryd.ntmps69; go_wp2_with (fail); go_ret; exact ⟨ret_b rfl, ba _ _⟩)
  · have h2 : (v == 0) = false := by simpa using h
    have h3 : decide (v = 0) = false := by simpa using h
    cases d <;> cases t <;> (go_enter Tryd.func69, Tryd.ntmps69; go_wp2_with (fail); go_ret; exact ⟨ret_b (by rw [H.out _ rfl, h3]; first | rfl | simp [h]), ba _ _⟩)

set_option maxRecDepth 100000 in
set_option maxHeartbeats 1600000 in
theorem validSign_any (v : Int) (d t : Bool) (w : World) : Calls Tryd.prog 82 #[sg v d t] w fun e w' => e = .returned (.bool (!wrB v d t || okB v d t)) ∧ Below w.heap.size w w' := by
  cases hw : wrB v d t with
  | false =>
    have HW := Lib.hid hw
    clear hw
    go_enter Tryd.func82, Tryd.ntmps82
    go_wp2_with (go_at_call 69; refine (written_any v d t _).mono ?_; rintro e w1 ⟨rfl, hb1⟩; rw [HW.out])
    go_ret
    exact ⟨ret_b rfl, bx hb1⟩
  | true =>
    have HW := Lib.hid hw
    have HO : Hid (okB v d t = (decide (1 ≤ v) && decide (v ≤ 7) && !(d && t))) := rfl
    clear hw
    by_cases h1 : (1 : Int) ≤ v
    · by_cases h7 : v ≤ 7
      · cases d <;> cases t <;> (
          go_enter Tryd.func82, Tryd.ntmps82
          go_wp2_with (go_at_call 69; refine (written_any _ _ _ _).mono ?_; rintro e w1 ⟨rfl, hb1⟩; rw [HW.out]; obtain ⟨q0, q1, q2⟩ : w1.cell? ⟨w.heap.size, 0, none⟩ = some (.int .i64 v) ∧ w1.cell? ⟨w.heap.size, 1, none⟩ = some (.bool _) ∧ w1.cell? ⟨w.heap.size, 2, none⟩ = some (.bool _) := ⟨by simpa using (keepb hb1 0).1, by simpa using (keepb hb1 1).1, by simpa using (keepb hb1 2).1⟩)
          go_ret
          exact ⟨ret_b (by rw [HO.out]; simp [h1, h7]), bx hb1⟩)
      · cases d <;> cases t <;> (
          go_enter Tryd.func82, Tryd.ntmps82
          go_wp2_with (go_at_call 69; refine (written_any _ _ _ _).mono ?_; rintro e w1 ⟨rfl, hb1⟩; rw [HW.out]; obtain ⟨q0, q1, q2⟩ : w1.cell? ⟨w.heap.size, 0, none⟩ = some (.int .i64 v) ∧ w1.cell? ⟨w.heap.size, 1, none⟩ = some (.bool _) ∧ w1.cell? ⟨w.heap.size, 2, none⟩ = some (.bool _) := ⟨by simpa using (keepb hb1 0).1, by simpa using (keepb hb1 1).1, by simpa using (keepb hb1 2).1⟩)
          go_ret
          exact ⟨ret_b (by rw [HO.out]; simp [h1, h7]), bx hb1⟩)
    · cases d <;> cases t <;> (
        go_enter Tryd.func82, Tryd.ntmps82
        go_wp2_with (go_at_call 69; refine (written_any _ _ _ _).mono ?_; rintro e w1 ⟨rfl, hb1⟩; rw [HW.out]; obtain ⟨q0, q1, q2⟩ : w1.cell? ⟨w.heap.size, 0, none⟩ = some (.int .i64 v) ∧ w1.cell? ⟨w.heap.size, 1, none⟩ = some (.bool _) ∧ w1.cell? ⟨w.heap.size, 2, none⟩ = some (.bool _) := ⟨by simpa using (keepb hb1 0).1, by simpa using (keepb hb1 1).1, by simpa using (keepb hb1 2).1⟩)
        go_ret
        exact ⟨ret_b (by rw [HO.out, show decide ((1 : Int) ≤ v) = false by simpa using h1]; rfl), bx hb1⟩)

end Go.Proofs.YtdhjigaocamglaaDoor
