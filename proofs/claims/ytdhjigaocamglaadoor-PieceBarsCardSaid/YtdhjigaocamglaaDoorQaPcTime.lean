/- Piece: Right and Ticks of the reference, for any sign. -/
import Derived.Test.YtdhjigaocamglaaDoorQaTk
import Derived.Test.YtdhjigaocamglaaDoorQaPcCopy
import Derived.Deep.RegionLaw
import Derived.Deep.AppendLies
namespace Go.Proofs.YtdhjigaocamglaaDoor
open Go.RowKit

set_option maxRecDepth 100000 in
set_option maxHeartbeats 1600000 in
theorem rRight_any (v : Int) (d t : Bool) (w : World) : Calls Tryd.prog 72 #[sg v d t] w fun e w' => e = .returned (.bool (!wrB v d t || okB v d t)) ∧ Below w.heap.size w w' := by
  by_cases h0 : v = 0
  · subst h0
    cases d <;> cases t <;> (go_enter Tryd.func72, Tryd.ntmps72; go_wp2_with (fail); go_ret; exact ⟨ret_b rfl, ba _ _⟩)
  · have g0 : (v == 0) = false := by simpa using h0
    have HO : Hid ((!wrB v d t || okB v d t) = (decide (1 ≤ v) && decide (v ≤ 7) && !(d && t))) := by simp [Hid, wrB, okB, h0]
    generalize (!wrB v d t || okB v d t) = R at *
    clear h0
    by_cases h1 : (1 : Int) ≤ v
    · by_cases h7 : v ≤ 7
      · cases d <;> cases t <;> (go_enter Tryd.func72, Tryd.ntmps72; go_wp2_with (fail); go_ret; exact ⟨ret_b (by rw [HO.out]; simp [h1, h7]), ba _ _⟩)
      · cases d <;> cases t <;> (go_enter Tryd.func72, Tryd.ntmps72; go_wp2_with (fail); go_ret; exact ⟨ret_b (by rw [HO.out, show decide (v ≤ 7) = false by simpa using h7]; simp), ba _ _⟩)
    · cases d <;> cases t <;> (go_enter Tryd.func72, Tryd.ntmps72; go_wp2_with (fail); go_ret; exact ⟨ret_b (by rw [HO.out, show decide ((1 : Int) ≤ v) = false by simpa using h1]; rfl), ba _ _⟩)

end Go.Proofs.YtdhjigaocamglaaDoor

/- Pieces: the signs in force, as plain lists and in the reference. -/
namespace Go.Proofs.YtdhjigaocamglaaDoor
open Go Go.RowKit

structure Sg where
  v : Int
  d : Bool
  t : Bool
def s0g : Sg := ⟨0, false, false⟩
def sgF (y : EvP) (s : Sg) : Sg := if y.v = 0 then s else ⟨y.v, y.d, y.t⟩
/-- The signs in force, one for each event. -/
def frcL : Sg → List EvP → List Sg
  | _, [] => []
  | s, y :: r => sgF y s :: frcL (sgF y s) r
def sfC (L : List Sg) : List Value := L.flatMap fun s => [.int .i64 s.v, .bool s.d, .bool s.t]
theorem sfC_at : ∀ (L : List Sg) (k : Nat), k < L.length → (sfC L)[k * 3]? = some (.int .i64 (L.getD k s0g).v) ∧ (sfC L)[k * 3 + 1]? = some (.bool (L.getD k s0g).d) ∧ (sfC L)[k * 3 + 2]? = some (.bool (L.getD k s0g).t)
  | c :: r, 0, _ => ⟨rfl, rfl, rfl⟩
  | c :: r, k + 1, h => by
    have := sfC_at r k (by simpa using h)
    have e : sfC (c :: r) = .int .i64 c.v :: .bool c.d :: .bool c.t :: sfC r := rfl
    rw [e, show (k + 1) * 3 = k * 3 + 3 from by omega]
    exact this
theorem frcL_len : ∀ (s : Sg) (P : List EvP), (frcL s P).length = P.length
  | _, [] => rfl
  | s, y :: r => by simp [frcL, frcL_len]
end Go.Proofs.YtdhjigaocamglaaDoor

/- Pieces: the times, as plain lists and in the reference. -/
namespace Go.Proofs.YtdhjigaocamglaaDoor
open Go Go.RowKit

def tkS (s : Sg) : Int := tkV s.v s.d s.t
def sumL : Int → List Sg → List Int
  | _, [] => []
  | a, s :: r => (a + tkS s) :: sumL (a + tkS s) r
theorem sumL_len : ∀ (a : Int) (F : List Sg), (sumL a F).length = F.length
  | _, [] => rfl
  | a, s :: r => by simp [sumL, sumL_len]
theorem tkS_bd (s : Sg) : 0 ≤ tkS s ∧ tkS s ≤ 576 := tkV_bd s.v s.d s.t

end Go.Proofs.YtdhjigaocamglaaDoor
