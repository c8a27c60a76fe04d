/- The law PieceSigns returns true for every number. -/
import Derived.Test.YtamfbglhachffaaDoorSameSg
import Derived.Test.YtamfbglhachffaaDoorWorks2
namespace Go.Proofs.YtamfbglhachffaaDoor
open Go Go.RowKit

theorem sgX_is (x : Int) : ∃ L : List Nat, sgX x = L.flatMap sgL ∧ sgN x = L.length := ⟨(sgQ x).getD [], rfl, rfl⟩
theorem sgN_le (x : Int) : sgN x ≤ 4608 := by
  unfold sgN sgQ
  split
  · simp
  · cases hq : sgP x with
    | none => simp
    | some l =>
      have := sumT_pos fun y hy => ((sgP_some hq).2.1.2.1 y hy).2
      have := (sgP_some hq).2.1.2.2
      simp
      omega
set_option maxRecDepth 100000 in
set_option maxHeartbeats 1600000 in
theorem law_signs (x : Int) (w : World) (hT : SgT w) : Calls Tryd.prog 3 #[.int .i64 x] w fun e w' => e = .returned (.bool true) ∧ Below w.heap.size w w' := by
  have HT := Lib.hid hT
  obtain ⟨L, hL, hN⟩ := sgX_is x
  have HL := Lib.hid (And.intro hL (And.intro hN (sgN_le x)))
  clear hT hL hN
  go_enter Tryd.func3, Tryd.ntmps3
  go_wp2_with (first
      | (go_at_call 9; refine (psigns_any x w HT.out).mono ?_; rintro e w1 ⟨A1, c1, rfl, hs1, hb1⟩)
      | (go_at_call 10; refine (rsigns_any x w1).mono ?_; rintro e w2 ⟨A2, c2, rfl, hs2, hb2⟩)
      | (go_at_call 11; refine (sameSigns_eq A1 A2 (sgN x) c1 c2 L w2 (by rw [← HL.out.1]; exact hs1.below hb2) (by rw [← HL.out.1]; exact hs2) HL.out.2.1 (by have := HL.out.2.2; omega)).mono ?_; rintro e w3 ⟨rfl, hb3⟩)
      | (go_at_call 12; refine (works2 _ (((HT.out.below hb1).below hb2).below hb3)).mono ?_; rintro e w4 ⟨rfl, hb4⟩))
  go_ret
  exact ⟨rfl, bt (bt (bt hb1 hb2) hb3) hb4⟩

end Go.Proofs.YtamfbglhachffaaDoor
