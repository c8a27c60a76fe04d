/- What the reference's checked, Tune and Transpose return for any instrument. -/
import Derived.Test.YtdaeanjjmbibmaaDoorTune2
namespace Go.Proofs.YtdaeanjjmbibmaaDoor
open Go.RowKit

set_option maxHeartbeats 1600000 in
theorem rchecked_ok (A A' : Option Addr) (n c m c' : Nat) (C : List Cr) (S : List Int) (w : World) (hC : Sl w w.heap.size 3 A n c (crC C)) (hS : Sl w w.heap.size 1 A' m c' (intC S)) (hn : n = C.length) (hm : m = S.length) (hb : n ≤ 65536) (hb2 : m ≤ 65536) (h1 : chk C S = 0) :
    Calls Tryd.prog 66 #[.agg #[.slice A n c, .slice A' m c']] w fun e w' => e = .returned (.tuple #[.agg #[.slice A n c, .slice A' m c'], .int .i64 0]) ∧ Below w.heap.size w w' := by
  have hC2 := (hC.below (ba w (iObj A n c A' m c'))).below (ba _ zIn)
  have hS2 := (hS.below (ba w (iObj A n c A' m c'))).below (ba _ zIn)
  have HCK := Lib.hid (rcheck_any A A' n c m c' C S _ hC2 hS2 hn hm (by omega) (by omega))
  have H1 := Lib.hid h1
  clear hC hS hC2 hS2 hn hm h1
  go_enter Tryd.func66, Tryd.ntmps66
  go_wp2_with (go_at_call 47; refine HCK.out.mono ?_; rintro e w1 ⟨rfl, hb1⟩; rw [H1.out]; obtain ⟨s0, s1, s2, s3, s4, s5, s6, s7⟩ := argsR hb1)
  refine bodyPost_ret (v := .tuple #[.agg #[.slice A n c, .slice A' m c'], .int .i64 0]) ?_ rfl ?_
  · simp [results, Tryd.results66, go_sem, s2, s3]
    done
  · exact ⟨rfl, (s7.setCell (by simp) _).setCell (by simp) _⟩
set_option maxHeartbeats 1600000 in
theorem rchecked_no (A A' : Option Addr) (n c m c' : Nat) (C : List Cr) (S : List Int) (ev : Int) (w : World) (hC : Sl w w.heap.size 3 A n c (crC C)) (hS : Sl w w.heap.size 1 A' m c' (intC S)) (hn : n = C.length) (hm : m = S.length) (hb : n ≤ 65536) (hb2 : m ≤ 65536) (h1 : chk C S = ev) (h0 : ev ≠ 0) :
    Calls Tryd.prog 66 #[.agg #[.slice A n c, .slice A' m c']] w fun e w' => e = .returned (.tuple #[.agg #[.slice none 0 0, .slice none 0 0], .int .i64 ev]) ∧ Below w.heap.size w w' := by
  have hC2 := (hC.below (ba w (iObj A n c A' m c'))).below (ba _ zIn)
  have hS2 := (hS.below (ba w (iObj A n c A' m c'))).below (ba _ zIn)
  have HCK := Lib.hid (rcheck_any A A' n c m c' C S _ hC2 hS2 hn hm (by omega) (by omega))
  have H1 := Lib.hid h1
  replace h0 : ¬ ev = 0 := h0
  clear hC hS hC2 hS2 hn hm h1
  go_enter Tryd.func66, Tryd.ntmps66
  go_wp2_with (go_at_call 47; refine HCK.out.mono ?_; rintro e w1 ⟨rfl, hb1⟩; rw [H1.out]; obtain ⟨s0, s1, s2, s3, s4, s5, s6, s7⟩ := argsR hb1)
  refine bodyPost_ret (v := .tuple #[.agg #[.slice none 0 0, .slice none 0 0], .int .i64 ev]) ?_ rfl ?_
  · simp [results, Tryd.results66, go_sem, s2, s3]
    done
  · exact ⟨rfl, (s7.setCell (by simp) _).setCell (by simp) _⟩

theorem drew_below (w : World) : Below w.heap.size w w.drew := (Below.refl _ _).drew

end Go.Proofs.YtdaeanjjmbibmaaDoor
