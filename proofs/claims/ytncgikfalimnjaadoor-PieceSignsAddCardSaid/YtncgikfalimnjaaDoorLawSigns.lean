/- The law PieceSigns returns true for every number. -/
import Derived.Test.YtncgikfalimnjaaDoorSameSg
import Derived.Test.YtncgikfalimnjaaDoorWorks2
namespace Go.Proofs.YtncgikfalimnjaaDoor
open Go Go.RowKit

theorem sgX_is (x : Int) : ∃ L : List Nat, sgX x = L.flatMap sgL ∧ sgN x = L.length := ⟨(sgQ x).getD [], rfl, rfl⟩
theorem sgN_le (x : Int) : sgN x ≤ 4608 := by
  unfold sgN sgQ
  split
  · simp
  · cases hq : sgP x with
    | none => simp
    | some l =>
      have := sumT_pos fun y hy => ((sgP_some hq).2.1.2.1 y hy).2
      have := (sgP_some hq).2.1.2.2
      simp
      omega
end Go.Proofs.YtncgikfalimnjaaDoor
