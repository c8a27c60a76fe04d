/- What the small functions of layer 1 return, in the program and in its reference: one contract for each function. -/
import Derived.Test.YtjobablfojnppaaDoorProg
import Derived.WalkKit
import Derived.WalkSpells
import Derived.WalkLawsBesides
import Derived.Deep.QuietTactic
import Derived.BigQuiet
import Derived.Lib.Hide
import Derived.Test.YtjobablfojnppaaDoorPure
namespace Go.Proofs.YtjobablfojnppaaDoor
open Go.RowKit

theorem ret_int {k : IntKind} {a b : Int} (h : a = b) : Ending.returned (.int k a) = .returned (.int k b) := by rw [h]
theorem ret_bool {a b : Bool} (h : a = b) : Ending.returned (.bool a) = .returned (.bool b) := by rw [h]
theorem bcell {W w1 : World} (hb : Below W.heap.size W w1) : (∀ b o, b < W.heap.size → w1.cell? ⟨b, o, none⟩ = W.cell? ⟨b, o, none⟩) ∧ (∀ b o, b < W.heap.size → w1.frozen? ⟨b, o, none⟩ = W.frozen? ⟨b, o, none⟩) :=
  ⟨fun b o h => hb.cell (p := ⟨b, o, none⟩) h, fun b o h => hb.frozen (p := ⟨b, o, none⟩) h⟩
theorem bx {w w1 : World} {o : Obj} (hb : Below (w.alloc o).heap.size (w.alloc o) w1) : Below w.heap.size w w1 :=
  ((Below.refl _ _).alloc (Nat.le_refl _) o).trans (hb.mono (by simp))
theorem bt {w w1 w2 : World} (h1 : Below w.heap.size w w1) (h2 : Below w1.heap.size w1 w2) : Below w.heap.size w w2 := h1.trans (h2.mono h1.size)
theorem ba (w : World) (o : Obj) : Below w.heap.size w (w.alloc o) := (Below.refl _ _).alloc (Nat.le_refl _) o
theorem bd {B : Nat} {w w1 : World} (h : Below B w w1) (n : Nat) : Below B w (w1.drewN n) := below_drewN h n

set_option maxHeartbeats 400000 in
theorem isPitch_any (p : Int) (w : World) :
    Calls Tryd.prog 117 #[.int .i64 p] w fun e w' => e = .returned (.bool (isP p)) ∧ w = w' := by
  go_enter Tryd.func117, Tryd.ntmps117
  go_wp2
  all_goals (go_ret; exact ⟨ret_bool (by simp [isP]; omega), rfl⟩)

/-- The cells of the two tables. -/
def letC : Array Value := ((List.range 7).flatMap fun n => [.string (lnm n), .int .i64 (bas n), .int .i64 (fif n)]).toArray
def stdC : Array Value := ((List.range 9).flatMap fun n => [.string (stn n), .string (stt n)]).toArray

theorem letC_at (n : Nat) (h : n < 7) : letC[n * 3]? = some (.string (lnm n)) ∧ letC[n * 3 + 1]? = some (.int .i64 (bas n)) ∧ letC[n * 3 + 2]? = some (.int .i64 (fif n)) := by
  have : n = 0 ∨ n = 1 ∨ n = 2 ∨ n = 3 ∨ n = 4 ∨ n = 5 ∨ n = 6 := by omega
  rcases this with rfl | rfl | rfl | rfl | rfl | rfl | rfl <;> exact ⟨rfl, rfl, rfl⟩
theorem stdC_at (n : Nat) (h : n < 9) : stdC[n * 2]? = some (.string (stn n)) ∧ stdC[n * 2 + 1]? = some (.string (stt n)) := by
  have : n = 0 ∨ n = 1 ∨ n = 2 ∨ n = 3 ∨ n = 4 ∨ n = 5 ∨ n = 6 ∨ n = 7 ∨ n = 8 := by omega
  rcases this with rfl | rfl | rfl | rfl | rfl | rfl | rfl | rfl | rfl <;> exact ⟨rfl, rfl⟩

end Go.Proofs.YtjobablfojnppaaDoor
