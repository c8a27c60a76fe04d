/- What SameSigns returns at two equal lists. -/
import Derived.Test.YtncgikfalimnjaaDoorRefSg
namespace Go.Proofs.YtncgikfalimnjaaDoor
open Go Go.RowKit

theorem sgLs_at : ∀ (L : List Nat) (k : Nat), k < L.length → (L.flatMap sgL)[k * 3]? = some (.int .i64 (sgv (L.getD k 0)).1) ∧ (L.flatMap sgL)[k * 3 + 1]? = some (.bool (sgv (L.getD k 0)).2.1) ∧ (L.flatMap sgL)[k * 3 + 2]? = some (.bool (sgv (L.getD k 0)).2.2)
  | c :: r, 0, _ => ⟨rfl, rfl, rfl⟩
  | c :: r, k + 1, h => by
    have := sgLs_at r k (by simpa using h)
    have e : (c :: r).flatMap sgL = .int .i64 (sgv c).1 :: .bool (sgv c).2.1 :: .bool (sgv c).2.2 :: r.flatMap sgL := rfl
    rw [e, show (k + 1) * 3 = k * 3 + 3 from by omega]
    exact this

end Go.Proofs.YtncgikfalimnjaaDoor
